/- Proved here: the model's l7Turn: the turn by value. -/
import Derived.Test.YtgaabcgdfbgchaaTrM
import Derived.Test.YtgaabcgdfbgchaaMoI
import Derived.Test.YtgaabcgdfbgchaaReg
namespace Go.Proofs.Ytgaabcgdfbgchaa
open Go.RowKit
set_option linter.unusedVariables false
set_option linter.unusedSimpArgs false

set_option maxRecDepth 10000 in
set_option maxHeartbeats 6400000 in
theorem spec_turn (p : Int) {w : World} {a : Option Addr} {c : Nat} (h : RZs w (.slice a 20 c) (rzK 20)) : Calls Try.prog 37 #[.int .i64 p, .slice a 20 c] w fun e w' => ∃ z : Zf, e = .returned (.agg #[.float .f64 z.re, .float .f64 z.im]) ∧ z.v = trV p ∧ Below w.heap.size w w' := by
  obtain ⟨t, ht⟩ : ∃ t, t = (p % 1048576).toNat := ⟨_, rfl⟩
  have htp : p % 1048576 = (t : Int) := by rw [ht]; have := Int.emod_nonneg p (show (1048576 : Int) ≠ 0 by decide); omega
  have htb : t < 1048576 := by have := Int.emod_lt_of_pos p (show (0 : Int) < 1048576 by decide); omega
  have HM : Hid (∀ W, Calls Try.prog 71 #[.int .i64 p, .int .i64 1048576] W fun e w' => e = .returned (.int .i64 t) ∧ w' = W) := fun W => by rw [← htp]; exact spec_mod p 1048576 (by omega) (by omega) W
  have HV : Hid (trV p = trK t 20) := by unfold Hid trV; rw [ht]
  have H : Hid (RZs w (.slice a 20 c) (rzK 20)) := h
  clear ht htp h
  go_enter Try.func37, Try.ntmps37
  go_wp2_with (fail)
  refine (HM.out _).mono ?_
  rintro e w1 ⟨rfl, hw1⟩
  subst w1
  go_wp2
  clear HM
  go_loopw [7] (fun i wr => ∃ (k : Nat) (z : Zf), k ≤ 20 ∧ i = .int .i64 k ∧ Hid (z.v = trK t k ∧ wr.heap[w.heap.size + 1]? = some (.cells #[.float .f64 z.re, .float .f64 z.im] 24) ∧ wr.heap[w.heap.size]? = some (.cells #[.float .f64 0, .float .f64 0] 24) ∧ Below w.heap.size w wr)) (fun i _ => 20 - (intOf i).toNat)
  case atStart => exact ⟨0, ⟨4607182418800017408, 0⟩, by omega, rfl, rfl, z_at1 w _ _, (Below.heap_alloc _ _ _ (by simp)).trans (heap_alloc_new w _), by (repeat' (first | (with_reducible exact Below.refl _ _) | (with_reducible assumption) | (with_reducible refine Below.setCell ?_ ?_ _) | (with_reducible refine Below.alloc ?_ ?_ _) | (with_reducible refine below_drewN ?_ _) | (with_reducible refine Below.drew ?_) | (with_reducible exact Nat.le_refl _) | omega | (simp; done) | (simp; omega)))⟩
  case round =>
    obtain ⟨k, z, hk, rfl, hR⟩ := hrel
    obtain ⟨p0, p1, pf, pl⟩ := z_two hR.out.2.1
    by_cases hlt : k < 20
    · have b0 : (0 : Int) ≤ (k : Int) := by omega
      have b1 : (k : Int) < 20 := by omega
      have hbs := bit_spec htb k
      have e1 : IntKind.i64.wrap (19 - (k : Int)) = 19 - (k : Int) := by rw [IntKind.wrap_i64]; omega
      cases hb : t.testBit (19 - k) with
      | false =>
        have hz : (bits BinOp.and .i64 ((t : Int) / 2 ^ (19 - k)) 1 == 1) = false := by rw [hbs, hb]; rfl
        have HN : Hid (trK t (k + 1) = trK t k) := by unfold Hid; rw [trK, hb]; rfl
        clear hb hbs
        go_wp2
        refine ⟨⟨k + 1, z, by omega, by go_num, by rw [HN.out]; exact hR.out.1, hR.out.2⟩, by simp [intOf]; omega⟩
      | true =>
        have hz : (bits BinOp.and .i64 ((t : Int) / 2 ^ (19 - k)) 1 == 1) = true := by rw [hbs, hb]; rfl
        have HN : Hid (trK t (k + 1) = mulV (trK t k) ⟨fv (rtR k), fv (rtI k)⟩) := by unfold Hid; rw [trK, hb]; rfl
        clear hb hbs
        obtain ⟨g, o, y, ha, hg, hy, c0, c1⟩ := rz_at (H.out.below hR.out.2.2.2) hlt
        have hgw : g < w.heap.size := by
          obtain ⟨g2, o2, y2, ha2, hg2, _⟩ := rz_at H.out hlt
          rw [ha] at ha2
          injection ha2 with ha2
          injection ha2 with ha2
          omega
        rw [rzK_at hlt] at hy
        injection hy with hy
        subst hy ha
        go_wp2_with (fail)
        refine wp_region_holdsA (S := KA (w.heap.size + 1) wr) (by kernel_rfl) (KA.of ((Below.refl _ _).drew)) (fun hS => ?_)
        refine fl_takeA (i := 1) (d := 23) (v := .slice (some ⟨g, o, none⟩) 20 c) rfl rfl rfl (by kernel_rfl) (by kernel_rfl) (by kernel_rfl) hS ?_ ?_
        · intro w' hk; unfold KA at hk; go_simp
        simp only [Act.put, List.setIfInBounds_toArray, List.set_cons_zero, List.set_cons_succ]
        refine fl_takeA (i := 2) (d := 24) (v := .int .i64 k) rfl rfl rfl (by kernel_rfl) (by kernel_rfl) (by kernel_rfl) hS ?_ ?_
        · intro w' hk; unfold KA at hk; go_simp
        simp only [Act.put, List.setIfInBounds_toArray, List.set_cons_zero, List.set_cons_succ]
        refine fl_takeA (i := 3) (d := 25) (v := .pointer (some ⟨g, o + k * 2, none⟩)) rfl rfl rfl (by kernel_rfl) (by kernel_rfl) (by kernel_rfl) hS ?_ ?_
        · intro w' hk; unfold KA at hk; go_simp
        simp only [Act.put, List.setIfInBounds_toArray, List.set_cons_zero, List.set_cons_succ]
        refine fl_takeA (i := 4) (d := 26) (v := .agg #[.float .f64 (rtR k), .float .f64 (rtI k)]) rfl rfl rfl (by kernel_rfl) (by kernel_rfl) (by kernel_rfl) hS ?_ ?_
        · intro w' hk; unfold KA at hk; go_simp
        simp only [Act.put, List.setIfInBounds_toArray, List.set_cons_zero, List.set_cons_succ]
        refine wpAnyH_all (rs := [0]) (by kernel_rfl) (by simp) ?_
        intro i hi; obtain rfl := List.mem_singleton.1 hi; clear hi
        refine op_val (d := 22) (v := .agg #[.float .f64 z.re, .float .f64 z.im]) (w' := wr.drew) rfl rfl rfl (by go_simp; try rfl) ?_
        simp only [Act.put, List.setIfInBounds_toArray, List.set_cons_zero, List.set_cons_succ]
        refine ⟨hS, wpAnyH_all (rs := [5]) (by kernel_rfl) (by simp) ?_⟩
        intro i hi; obtain rfl := List.mem_singleton.1 hi; clear hi
        refine op_call (d := 27) rfl rfl rfl (by go_simp) ((spec_mul z ⟨rtR k, rtI k⟩ _).mono ?_)
        rintro e w3 ⟨x, rfl, hx, hb3⟩
        have hs3 : w.heap.size + 1 < w3.heap.size := by have := hb3.size; simp at this; omega
        have B3 : Below (w.heap.size + 1) wr w3 := hS.2.trans (hb3.mono (by simp; omega))
        refine ⟨_, rfl, KA.of B3, ?_⟩
        simp only [Act.put, List.setIfInBounds_toArray, List.set_cons_zero, List.set_cons_succ]
        have g1 : w3.heap[w.heap.size + 1]? = some (.cells #[.float .f64 z.re, .float .f64 z.im] 24) := (hb3.block _ (by simp; omega)).trans hR.out.2.1
        have g0 : w3.heap[w.heap.size]? = some (.cells #[.float .f64 0, .float .f64 0] 24) := (hb3.block _ (by simp; omega)).trans hR.out.2.2.1
        refine wpAnyH_all (rs := [6]) (by kernel_rfl) (by simp) ?_
        intro i hi; obtain rfl := List.mem_singleton.1 hi; clear hi
        refine op_store rfl rfl rfl 24 _ _ rfl (w.heap.size + 1) #[.float .f64 x.re, .float .f64 x.im] (by go_simp) (by go_simp) (there_two g1) (by kernel_rfl) (by simp [Value.oneCell']) ?_
        have B5 := below_setCells (w.heap.size + 1) (Nat.le_refl _) [.float .f64 x.re, .float .f64 x.im] 0 _ B3
        refine ⟨KA.of B5, wpAnyH_done (by kernel_rfl) (NoPanic.normal ?_) _⟩
        have s0 := heap_setCell_same _ _ 0 _ _ (.float .f64 x.re) g1
        have s1 := heap_setCell_same _ _ 1 _ _ (.float .f64 x.im) s0
        have s2 : (w3.setCells (w.heap.size + 1) 0 [.float .f64 x.re, .float .f64 x.im]).heap[w.heap.size + 1]? = some (.cells #[.float .f64 x.re, .float .f64 x.im] 24) := by simpa [World.setCells] using s1
        have HW : Hid (x.v = trK t (k + 1) ∧ (w3.setCells (w.heap.size + 1) 0 [.float .f64 x.re, .float .f64 x.im]).heap[w.heap.size + 1]? = some (.cells #[.float .f64 x.re, .float .f64 x.im] 24) ∧ (w3.setCells (w.heap.size + 1) 0 [.float .f64 x.re, .float .f64 x.im]).heap[w.heap.size]? = some (.cells #[.float .f64 0, .float .f64 0] 24) ∧ Below w.heap.size w (w3.setCells (w.heap.size + 1) 0 [.float .f64 x.re, .float .f64 x.im])) := by
          refine ⟨by rw [HN.out, hx, hR.out.1]; rfl, s2, ?_, hR.out.2.2.2.trans (B5.mono (by omega))⟩
          rw [setCells_other _ _ _ _ _ (by omega)]
          exact g0
        generalize w3.setCells (w.heap.size + 1) 0 [.float .f64 x.re, .float .f64 x.im] = w5 at HW ⊢
        clear s0 s1 s2 B3 B5 g0 g1 hb3 hS hR p0 p1 pf pl c0 c1 hx HN hz e1
        go_wp2
        exact ⟨⟨k + 1, x, by omega, by go_num, HW.out⟩, by simp [intOf]; omega⟩
    · have b1 : ¬ (k : Int) < 20 := by omega
      have HE : Hid (z.v = trV p ∧ wr.heap[w.heap.size]? = some (.cells #[.float .f64 0, .float .f64 0] 24) ∧ Below w.heap.size w wr) := ⟨by rw [HV.out, hR.out.1, show k = 20 by omega], hR.out.2.2⟩
      obtain ⟨q0, q1, qf, ql⟩ := z_two HE.out.2.1
      have qf0 := qf 0
      have qf1 := qf 1
      clear hR qf
      go_wp2
      refine bodyPost_ret (by simp [results, Try.results37, go_sem, q0, q1, p0, p1]; try rfl) rfl ⟨z, rfl, HE.out.1, ?_⟩
      have hB := HE.out.2.2
      (repeat' (first | (with_reducible exact Below.refl _ _) | (with_reducible assumption) | (with_reducible refine Below.setCell ?_ ?_ _) | (with_reducible refine Below.alloc ?_ ?_ _) | (with_reducible refine below_drewN ?_ _) | (with_reducible refine Below.drew ?_) | (with_reducible exact Nat.le_refl _) | omega | (simp; done) | (simp; omega)))

end Go.Proofs.Ytgaabcgdfbgchaa
