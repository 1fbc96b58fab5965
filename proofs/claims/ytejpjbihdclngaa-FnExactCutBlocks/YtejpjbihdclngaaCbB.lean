/- Proved here: blockBytes of the program: blB. -/
import Derived.Test.YtejpjbihdclngaaCbM
import Derived.Test.YtejpjbihdclngaaBkU
import Derived.Test.YtejpjbihdclngaaOpN
import Derived.Test.YtejpjbihdclngaaFloat
import Derived.Test.YtejpjbihdclngaaLwS
import Derived.Deep.Cut
import Derived.Deep.DeepCutAuto
namespace Go.Proofs.Ytejpjbihdclngaa
open Go.RowKit
set_option linter.unusedVariables false
set_option linter.unusedSimpArgs false

theorem six_C {w : World} {k : Nat} {a b c d e f : Value} {T : TypeId} (h : w.heap[k]? = some (.cells #[a, b, c, d, e, f] T)) :
    w.cell? ⟨k, 0, none⟩ = some a ∧ w.cell? ⟨k, 1, none⟩ = some b ∧ w.cell? ⟨k, 2, none⟩ = some c ∧ w.cell? ⟨k, 3, none⟩ = some d ∧ w.cell? ⟨k, 4, none⟩ = some e ∧ w.cell? ⟨k, 5, none⟩ = some f ∧ w.frozen? ⟨k, 0, none⟩ = false ∧ w.frozen? ⟨k, 1, none⟩ = false ∧ w.frozen? ⟨k, 2, none⟩ = false ∧ w.frozen? ⟨k, 3, none⟩ = false ∧ w.frozen? ⟨k, 4, none⟩ = false ∧ w.frozen? ⟨k, 5, none⟩ = false ∧ k < w.heap.size := ⟨cellOf h 0 rfl, cellOf h 1 rfl, cellOf h 2 rfl, cellOf h 3 rfl, cellOf h 4 rfl, cellOf h 5 rfl, frozOf h 0, frozOf h 1, frozOf h 2, frozOf h 3, frozOf h 4, frozOf h 5, ltOf h⟩
set_option maxHeartbeats 400000 in
theorem impl_oneIf (l : Bool) (W : World) : Calls Try.prog 63 #[.bool l] W fun e w' => e = .returned (.int .i64 (if l then 1 else 0)) ∧ w' = W := by
  cases l
  all_goals
    go_enter Try.func63, Try.ntmps63
    go_wp2
    go_returns
    exact ⟨rfl, rfl⟩
theorem own_formC {w : World} {B T k n : Nat} {v : Value} {xs : List Value} (h : w.ownsRow B T k v n xs) : ∃ a c, v = .slice a n c := by
  rcases h.2 with ⟨rfl, h0⟩ | ⟨g, cap, cur, rfl, _⟩
  · exact ⟨none, 0, by rw [h0]⟩
  · exact ⟨_, _, rfl⟩
set_option maxRecDepth 10000 in
set_option maxHeartbeats 3200000 in
theorem impl_bb (A B N : Int) (l : Bool) (C : Int) {w : World} {v : Value} {d : List UInt8} (hd : d.length ≤ 32) (h : RBy w v d) (hno : ∀ m c, v = .slice none m c → m = 0 ∧ c = 0) :
    Calls Try.prog 51 #[.agg #[.int .i64 A, .int .i64 B, .int .i64 N, .bool l, .int .i64 C, v]] w fun e w' => ∃ v', e = .returned v' ∧ OBy w' w.heap.size v' (blB A B C N l d) ∧ Below w.heap.size w w' := by
  obtain ⟨i0, hi, hz0, hz1, hz2⟩ := info_parts info_by
  obtain ⟨a, c, rfl⟩ := h.form
  obtain ⟨n, hnn⟩ : ∃ n, n = d.length := ⟨_, rfl⟩
  rw [← hnn] at h hd hno ⊢
  obtain ⟨HD, hHD⟩ : ∃ L, L = hdB A B C N l d := ⟨_, rfl⟩
  have HHL : Hid (HD.length = 6 + n) := by unfold Hid; rw [hHD, hdB_len, hnn]
  have HBL : Hid (blB A B C N l d = HD ++ [hiB (suV (HD.drop 1)), loB (suV (HD.drop 1))]) := by unfold Hid; rw [hHD]; rfl
  obtain ⟨Z0, hZ0⟩ : ∃ Z, Z = (5 + (n : Int)) % 256 := ⟨_, rfl⟩
  obtain ⟨Z1, hZ1⟩ : ∃ Z, Z = A % 256 := ⟨_, rfl⟩
  obtain ⟨Z2, hZ2⟩ : ∃ Z, Z = B % 256 := ⟨_, rfl⟩
  obtain ⟨Z3, hZ3⟩ : ∃ Z, Z = N % 256 := ⟨_, rfl⟩
  obtain ⟨Z4, hZ4⟩ : ∃ Z, Z = C % 256 := ⟨_, rfl⟩
  obtain ⟨I, hI⟩ : ∃ I : Int, I = if l then 1 else 0 := ⟨_, rfl⟩
  obtain ⟨Z5, hZ5⟩ : ∃ Z, Z = I % 256 := ⟨_, rfl⟩
  have HF6 : Hid ([.int .u8 Z0, .int .u8 Z1, .int .u8 Z2, .int .u8 Z3, .int .u8 Z4, .int .u8 Z5] ++ d.flatMap byC = HD.flatMap byC) := by
    unfold Hid; rw [hHD, hdB, List.flatMap_append, hd_flat, hZ0, hZ1, hZ2, hZ3, hZ4, hZ5, hI, hnn]
  have hw0 : IntKind.u8.wrap (5 + (n : Int)) = Z0 := by rw [hZ0]; exact IntKind.wrap_u8 _
  have hwn : IntKind.i64.wrap (5 + (n : Int)) = 5 + (n : Int) := by rw [IntKind.wrap_i64]; omega
  have hw1 : IntKind.u8.wrap A = Z1 := by rw [hZ1]; exact IntKind.wrap_u8 _
  have hw2 : IntKind.u8.wrap B = Z2 := by rw [hZ2]; exact IntKind.wrap_u8 _
  have hw3 : IntKind.u8.wrap N = Z3 := by rw [hZ3]; exact IntKind.wrap_u8 _
  have hw4 : IntKind.u8.wrap C = Z4 := by rw [hZ4]; exact IntKind.wrap_u8 _
  have hw5 : IntKind.u8.wrap I = Z5 := by rw [hZ5]; exact IntKind.wrap_u8 _
  have HOI : Hid (∀ W, Calls Try.prog 63 #[.bool l] W fun e w' => e = .returned (.int .i64 I) ∧ w' = W) := fun W => by rw [hI]; exact impl_oneIf l W
  have H : Hid (RBy w (.slice a n c) d ∧ n = d.length ∧ (a = none → n = 0 ∧ c = 0)) := ⟨h, hnn, fun e => hno n c (by rw [e])⟩
  clear h hnn hno hZ0 hZ1 hZ2 hZ3 hZ4 hZ5 hI hHD
  obtain ⟨W0, hW0⟩ : ∃ W, W = w.alloc (.cells #[.int .i64 A, .int .i64 B, .int .i64 N, .bool l, .int .i64 C, .slice a n c] 48) := ⟨_, rfl⟩
  have HW0 : Hid (Below w.heap.size w W0 ∧ W0.heap[w.heap.size]? = some (.cells #[.int .i64 A, .int .i64 B, .int .i64 N, .bool l, .int .i64 C, .slice a n c] 48) ∧ W0.heap.size = w.heap.size + 1) := by
    rw [hW0]; exact ⟨by (repeat' (first | (with_reducible exact Below.refl _ _) | (with_reducible assumption) | (with_reducible refine Below.setCell ?_ ?_ _) | (with_reducible refine Below.alloc ?_ ?_ _) | (with_reducible refine below_drewN ?_ _) | (with_reducible refine Below.drew ?_) | (with_reducible exact Nat.le_refl _) | omega | (simp; done) | (simp; omega))), heap_alloc_new _ _, by simp⟩
  go_enter Try.func51, Try.ntmps51
  go_upto_region 1 with fail
  rw [← hW0]
  clear hW0
  obtain ⟨x0, x1, x2, x3, x4, x5, xf0, xf1, xf2, xf3, xf4, xf5, xl⟩ := six_C (HW0.out.2.1)
  go_wp2_with (fail)
  refine wp_region_float (by kernel_rfl) (fun hS => ?_)
  refine fl_take (i := 0) (d := 4) (v := .pointer (some ⟨w.heap.size, 5, none⟩)) rfl rfl rfl (by kernel_rfl) (by kernel_rfl) (by kernel_rfl) hS ?_ ?_
  · intro w' hk; go_simp
  simp only [Act.put, List.setIfInBounds_toArray, List.set_cons_zero, List.set_cons_succ]
  refine fl_take (i := 1) (d := 5) (v := .slice a n c) rfl rfl rfl (by kernel_rfl) (by kernel_rfl) (by kernel_rfl) hS ?_ ?_
  · intro w' hk; go_simp
  simp only [Act.put, List.setIfInBounds_toArray, List.set_cons_zero, List.set_cons_succ]
  refine fl_take (i := 2) (d := 6) (v := .int .i64 n) rfl rfl rfl (by kernel_rfl) (by kernel_rfl) (by kernel_rfl) hS ?_ ?_
  · intro w' hk; go_simp
  simp only [Act.put, List.setIfInBounds_toArray, List.set_cons_zero, List.set_cons_succ]
  refine fl_take (i := 3) (d := 7) (v := .int .i64 (5 + (n : Int))) rfl rfl rfl (by kernel_rfl) (by kernel_rfl) (by kernel_rfl) hS ?_ ?_
  · intro w' hk; go_simp
  simp only [Act.put, List.setIfInBounds_toArray, List.set_cons_zero, List.set_cons_succ]
  refine fl_take (i := 4) (d := 8) (v := .int .u8 Z0) rfl rfl rfl (by kernel_rfl) (by kernel_rfl) (by kernel_rfl) hS ?_ ?_
  · intro w' hk; go_simp
  simp only [Act.put, List.setIfInBounds_toArray, List.set_cons_zero, List.set_cons_succ]
  refine fl_take (i := 5) (d := 9) (v := .pointer (some ⟨w.heap.size, 0, none⟩)) rfl rfl rfl (by kernel_rfl) (by kernel_rfl) (by kernel_rfl) hS ?_ ?_
  · intro w' hk; go_simp
  simp only [Act.put, List.setIfInBounds_toArray, List.set_cons_zero, List.set_cons_succ]
  refine fl_take (i := 6) (d := 10) (v := .int .i64 A) rfl rfl rfl (by kernel_rfl) (by kernel_rfl) (by kernel_rfl) hS ?_ ?_
  · intro w' hk; go_simp
  simp only [Act.put, List.setIfInBounds_toArray, List.set_cons_zero, List.set_cons_succ]
  refine fl_take (i := 7) (d := 11) (v := .int .u8 Z1) rfl rfl rfl (by kernel_rfl) (by kernel_rfl) (by kernel_rfl) hS ?_ ?_
  · intro w' hk; go_simp
  simp only [Act.put, List.setIfInBounds_toArray, List.set_cons_zero, List.set_cons_succ]
  refine fl_take (i := 8) (d := 12) (v := .pointer (some ⟨w.heap.size, 1, none⟩)) rfl rfl rfl (by kernel_rfl) (by kernel_rfl) (by kernel_rfl) hS ?_ ?_
  · intro w' hk; go_simp
  simp only [Act.put, List.setIfInBounds_toArray, List.set_cons_zero, List.set_cons_succ]
  refine fl_take (i := 9) (d := 13) (v := .int .i64 B) rfl rfl rfl (by kernel_rfl) (by kernel_rfl) (by kernel_rfl) hS ?_ ?_
  · intro w' hk; go_simp
  simp only [Act.put, List.setIfInBounds_toArray, List.set_cons_zero, List.set_cons_succ]
  refine fl_take (i := 10) (d := 14) (v := .int .u8 Z2) rfl rfl rfl (by kernel_rfl) (by kernel_rfl) (by kernel_rfl) hS ?_ ?_
  · intro w' hk; go_simp
  simp only [Act.put, List.setIfInBounds_toArray, List.set_cons_zero, List.set_cons_succ]
  refine fl_take (i := 11) (d := 15) (v := .pointer (some ⟨w.heap.size, 2, none⟩)) rfl rfl rfl (by kernel_rfl) (by kernel_rfl) (by kernel_rfl) hS ?_ ?_
  · intro w' hk; go_simp
  simp only [Act.put, List.setIfInBounds_toArray, List.set_cons_zero, List.set_cons_succ]
  refine fl_take (i := 12) (d := 16) (v := .int .i64 N) rfl rfl rfl (by kernel_rfl) (by kernel_rfl) (by kernel_rfl) hS ?_ ?_
  · intro w' hk; go_simp
  simp only [Act.put, List.setIfInBounds_toArray, List.set_cons_zero, List.set_cons_succ]
  refine fl_take (i := 13) (d := 17) (v := .int .u8 Z3) rfl rfl rfl (by kernel_rfl) (by kernel_rfl) (by kernel_rfl) hS ?_ ?_
  · intro w' hk; go_simp
  simp only [Act.put, List.setIfInBounds_toArray, List.set_cons_zero, List.set_cons_succ]
  refine fl_take (i := 14) (d := 18) (v := .pointer (some ⟨w.heap.size, 4, none⟩)) rfl rfl rfl (by kernel_rfl) (by kernel_rfl) (by kernel_rfl) hS ?_ ?_
  · intro w' hk; go_simp
  simp only [Act.put, List.setIfInBounds_toArray, List.set_cons_zero, List.set_cons_succ]
  refine fl_take (i := 15) (d := 19) (v := .int .i64 C) rfl rfl rfl (by kernel_rfl) (by kernel_rfl) (by kernel_rfl) hS ?_ ?_
  · intro w' hk; go_simp
  simp only [Act.put, List.setIfInBounds_toArray, List.set_cons_zero, List.set_cons_succ]
  refine fl_take (i := 16) (d := 20) (v := .int .u8 Z4) rfl rfl rfl (by kernel_rfl) (by kernel_rfl) (by kernel_rfl) hS ?_ ?_
  · intro w' hk; go_simp
  simp only [Act.put, List.setIfInBounds_toArray, List.set_cons_zero, List.set_cons_succ]
  refine fl_take (i := 17) (d := 21) (v := .pointer (some ⟨w.heap.size, 3, none⟩)) rfl rfl rfl (by kernel_rfl) (by kernel_rfl) (by kernel_rfl) hS ?_ ?_
  · intro w' hk; go_simp
  simp only [Act.put, List.setIfInBounds_toArray, List.set_cons_zero, List.set_cons_succ]
  refine fl_take (i := 18) (d := 22) (v := .bool l) rfl rfl rfl (by kernel_rfl) (by kernel_rfl) (by kernel_rfl) hS ?_ ?_
  · intro w' hk; go_simp
  simp only [Act.put, List.setIfInBounds_toArray, List.set_cons_zero, List.set_cons_succ]
  refine wpAnyH_all (rs := [19]) (by kernel_rfl) (by simp) ?_
  intro i hi9
  obtain rfl : i = 19 := by simpa using hi9
  refine op_call (d := 23) rfl rfl rfl (by go_simp) ((HOI.out _).mono ?_)
  rintro r y0 ⟨rfl, hy0⟩
  subst y0
  refine ⟨_, rfl, hS, ?_⟩
  simp only [Act.put, List.setIfInBounds_toArray, List.set_cons_zero, List.set_cons_succ]
  refine fl_take (i := 20) (d := 24) (v := .int .u8 Z5) rfl rfl rfl (by kernel_rfl) (by kernel_rfl) (by kernel_rfl) hS ?_ ?_
  · intro w' hk; go_simp
  simp only [Act.put, List.setIfInBounds_toArray, List.set_cons_zero, List.set_cons_succ]
  refine wpAnyH_all (rs := [21]) (by kernel_rfl) (by simp) ?_
  intro i hi9
  obtain rfl : i = 21 := by simpa using hi9
  refine op_val (d := 25) (v := .slice (some ⟨W0.heap.size, 0, none⟩) 6 6) (w' := W0.drew.alloc (.cells #[.int .u8 Z0, .int .u8 Z1, .int .u8 Z2, .int .u8 Z3, .int .u8 Z4, .int .u8 Z5] 5)) rfl rfl rfl (by go_simp; try rfl) ?_
  simp only [Act.put, List.setIfInBounds_toArray, List.set_cons_zero, List.set_cons_succ]
  have hS1 : KS W0 (W0.drew.alloc (.cells #[.int .u8 Z0, .int .u8 Z1, .int .u8 Z2, .int .u8 Z3, .int .u8 Z4, .int .u8 Z5] 5)) := hS.alloc _
  refine ⟨hS1, ?_⟩
  refine wpAnyH_all (rs := [22]) (by kernel_rfl) (by simp) ?_
  intro i hi9
  obtain rfl : i = 22 := by simpa using hi9
  refine op_val (d := 3) (v := .slice (some ⟨W0.heap.size, 0, none⟩) 6 6) (w' := W0.drew.alloc (.cells #[.int .u8 Z0, .int .u8 Z1, .int .u8 Z2, .int .u8 Z3, .int .u8 Z4, .int .u8 Z5] 5)) rfl rfl rfl (by go_simp; try rfl) ?_
  simp only [Act.put, List.setIfInBounds_toArray, List.set_cons_zero, List.set_cons_succ]
  refine ⟨hS1, wpAnyH_done (by kernel_rfl) (NoPanic.normal ?_) _⟩
  obtain ⟨W1, hW1⟩ : ∃ W, W = W0.drew.alloc (.cells #[.int .u8 Z0, .int .u8 Z1, .int .u8 Z2, .int .u8 Z3, .int .u8 Z4, .int .u8 Z5] 5) := ⟨_, rfl⟩
  obtain ⟨K1, hK1⟩ : ∃ K, K = W0.heap.size := ⟨_, rfl⟩
  have HW1 : Hid (Below w.heap.size w W1 ∧ W1.heap[w.heap.size]? = some (.cells #[.int .i64 A, .int .i64 B, .int .i64 N, .bool l, .int .i64 C, .slice a n c] 48) ∧ W1.ownsRow (w.heap.size + 1) 5 1 (.slice (some ⟨K1, 0, none⟩) 6 6) 6 [.int .u8 Z0, .int .u8 Z1, .int .u8 Z2, .int .u8 Z3, .int .u8 Z4, .int .u8 Z5] ∧ w.heap.size + 1 ≤ W1.heap.size ∧ w.heap.size + 1 ≤ K1) := by
    have h9 := HW0.out.2.2
    refine ⟨by rw [hW1]; exact HW0.out.1.trans (hS1.2.mono HW0.out.1.size), by rw [hW1]; exact (hS1.2.block _ (ltOf HW0.out.2.1)).trans HW0.out.2.1, ?_, by rw [hW1]; simp; omega, by omega⟩
    rw [hW1, hK1]
    exact World.ownsRow_lit (e := 5) (size := 1) (base := w.heap.size + 1) W0.drew #[.int .u8 Z0, .int .u8 Z1, .int .u8 Z2, .int .u8 Z3, .int .u8 Z4, .int .u8 Z5] 6 (by show _ ≤ W0.heap.size; omega) (by decide) (by simp)
  rw [← hW1, ← hK1]
  clear hS hS1 hW1 hK1 HW0 x0 x1 x2 x3 x4 x5 xf0 xf1 xf2 xf3 xf4 xf5 xl
  have HRD : Hid (RBy W1 (.slice a n c) d) := H.out.1.below HW1.out.1
  have HDL : Hid ((d.flatMap byC).length = n * 1) := by unfold Hid; rw [by_flen, H.out.2.1]
  have hs1 := HW1.out.2.2.2
  obtain ⟨x0, x1, x2, x3, x4, x5, xf0, xf1, xf2, xf3, xf4, xf5, xl⟩ := six_C (HW1.out.2.1)
  go_wp2_with (at_builtin; go_loud (refine appAny rfl _ _ 22 rfl (w.heap.size + 1) 5 i0 (.int .u8 0) 1 1 Try.underlying22 hi hz0 hz1 hz2 rfl (by decide) (.slice (some ⟨K1, 0, none⟩) 6 6) 6 _ rfl HW1.out.2.2.1 a n c (d.flatMap byC) rfl HDL.out H.out.2.2 (by_news HRD.out) (byC_one d) (by unfold maxLen; omega) (by omega) (by omega) ?_); intro v2 W2 hown2 hgrow2 hv2; go_loud (obtain ⟨va2, vc2, rfl⟩ := own_formC hown2))
  have HW2 : Hid (Below w.heap.size w W2 ∧ OBy W2 (w.heap.size + 1) (.slice va2 (6 + n) vc2) HD) := by
    refine ⟨HW1.out.1.grown hgrow2 HW1.out.1.size (fun q hq => by simp only [Value.ownBlock, Option.some.injEq] at hq; omega), ?_⟩
    show World.ownsRow _ _ _ _ _ _ _
    rw [HHL.out, ← HF6.out]; exact hown2
  clear hown2 hgrow2 hv2 HW1 HRD HDL hs1 x0 x1 x2 x3 x4 x5 xf0 xf1 xf2 xf3 xf4 xf5 xl
  obtain ⟨S1, hS1⟩ : ∃ S, S = hiB (suV (HD.drop 1)) := ⟨_, rfl⟩
  obtain ⟨S2, hS2⟩ : ∃ S, S = loB (suV (HD.drop 1)) := ⟨_, rfl⟩
  have HBS : Hid (Calls Try.prog 56 #[.slice va2 (6 + n) vc2] W2 fun e w' => ∃ g, e = .returned (.slice (some ⟨g, 0, none⟩) 2 2) ∧ OBy w' W2.heap.size (.slice (some ⟨g, 0, none⟩) 2 2) [S1, S2] ∧ Below W2.heap.size W2 w') := by
    rw [hS1, hS2]
    exact impl_bsum (s := HD) (by rw [HHL.out]; omega) (by rw [HHL.out]; omega) HW2.out.2.rc
  rw [← hS1, ← hS2] at HBL
  clear hS1 hS2
  refine HBS.out.mono ?_
  rintro e W3 ⟨g3, rfl, ho3, hb3⟩
  have HW3 : Hid (Below w.heap.size w W3 ∧ W3.ownsRow (w.heap.size + 1) 5 1 (.slice va2 (6 + n) vc2) (6 + n) (HD.flatMap byC) ∧ RBy W3 (.slice (some ⟨g3, 0, none⟩) 2 2) [S1, S2] ∧ w.heap.size + 1 ≤ W3.heap.size) := by
    have h8 : OBy W3 (w.heap.size + 1) (.slice va2 (6 + n) vc2) HD := OG.below HW2.out.2 hb3
    have h9 : W3.ownsRow (w.heap.size + 1) 5 1 (.slice va2 (6 + n) vc2) HD.length (HD.flatMap byC) := h8
    rw [HHL.out] at h9
    refine ⟨HW2.out.1.trans (hb3.mono HW2.out.1.size), h9, ho3.rg, ?_⟩
    have := (OG.lt ho3 g3 rfl).2
    have := (OG.lt ho3 g3 rfl).1
    have := HW2.out.1.size
    omega
  clear ho3 hb3 HW2 HBS
  have hs3 := HW3.out.2.2.2
  go_wp2_with (at_builtin; go_loud (refine appAny rfl _ _ 22 rfl (w.heap.size + 1) 5 i0 (.int .u8 0) 1 1 Try.underlying22 hi hz0 hz1 hz2 rfl (by decide) (.slice va2 (6 + n) vc2) (6 + n) (HD.flatMap byC) rfl HW3.out.2.1 (some ⟨g3, 0, none⟩) 2 2 ([S1, S2].flatMap byC) rfl rfl (by intro h; cases h) (by_news HW3.out.2.2.1) (byC_one _) (by unfold maxLen; omega) (by omega) (by omega) ?_); intro v4 W4 hown4 hgrow4 hv4)
  have HW4 : Hid (OBy W4 w.heap.size v4 (blB A B C N l d) ∧ Below w.heap.size w W4) := by
    refine ⟨OG.low (B := w.heap.size + 1) ?_ (by omega), HW3.out.1.grown hgrow4 HW3.out.1.size (fun q hq => by have := (World.ownsRow.lt HW3.out.2.1 q hq).1; omega)⟩
    rw [HBL.out]
    refine OBy.join ?_
    rw [HHL.out]; exact hown4
  clear hown4 hgrow4 hv4
  go_returns
  exact ⟨_, rfl, HW4.out.1, HW4.out.2⟩

end Go.Proofs.Ytejpjbihdclngaa
