/- Proved here: ParseFrac of the program: pfQ, of texts that tell a quotient; and of all texts. -/
import Derived.Test.YtcojhkpdlmldcaaPzQ
namespace Go.Proofs.Ytcojhkpdlmldcaa
open Go.RowKit
set_option linter.unusedVariables false
set_option linter.unusedSimpArgs false

set_option maxHeartbeats 4000000 in
theorem pfi_q (s : ByteArray) (w : World) (hs : s.size ≤ 4000) (m : Bool) (sl tc tv bc bv : Int) (H : Hid (SCa s (.tuple #[.agg #[.bool m, .int .i64 sl, .int .i64 tc, .int .i64 tv, .int .i64 bc, .int .i64 bv], .int .i64 0, .bool true]))) (h0 : ¬ 18 < tc) (h1 : ¬ 18 < bc) (h2 : ¬ 0 < sl ∨ (bv == 0) = false) (n d C X Y : Int)
    (HN : Hid (∀ V, Calls Try.prog 13 #[.agg #[.bool m, .int .i64 sl, .int .i64 tc, .int .i64 tv, .int .i64 bc, .int .i64 bv]] V fun e w' => e = .returned (.int .i64 n) ∧ Below V.heap.size V w'))
    (HD : Hid (∀ V, Calls Try.prog 14 #[.agg #[.bool m, .int .i64 sl, .int .i64 tc, .int .i64 tv, .int .i64 bc, .int .i64 bv]] V fun e w' => e = .returned (.int .i64 d) ∧ Below V.heap.size V w'))
    (HQ : Hid (∀ V, Calls Try.prog 12 #[.int .i64 n, .int .i64 d] V fun e w' => e = .returned (.agg #[.int .i64 C, .int .i64 X, .int .i64 Y]) ∧ Below V.heap.size V w')) : PFi s ⟨C, 0, X, Y⟩ w := by
  unfold PFi
  simp only
  have g : ¬ (4000 : Int) < (s.size : Int) := by omega
  go_enter Try.func5, Try.ntmps5
  go_wp2_with (fail)
  refine (H.out _).mono ?_
  rintro e w1 ⟨rfl, hb1⟩
  have j1 := (hb1.block w.heap.size (by simp)).trans (heap_alloc_new w (.cells #[.int .i64 0, .int .i64 0, .int .i64 0, .int .i64 0] 25))
  have hL1 : Hid (Below w.heap.size w w1) := (show Below w.heap.size w _ from by (repeat' (first | (with_reducible exact Below.refl _ _) | (with_reducible assumption) | (with_reducible refine Below.setCell ?_ ?_ _) | (with_reducible refine Below.alloc ?_ ?_ _) | (with_reducible refine below_drewN ?_ _) | (with_reducible refine Below.drew ?_) | (with_reducible exact Nat.le_refl _) | omega | (simp; done) | (simp; omega)))).trans (hb1.mono (by simp))
  have HA : Hid (w1.heap[w.heap.size]? = _) := j1
  clear hb1 j1
  go_upto_region 6 with fail
  have hA2 := (Below.heap_alloc w1 (.cells #[.bool m, .int .i64 sl, .int .i64 tc, .int .i64 tv, .int .i64 bc, .int .i64 bv] 36) _ (pzLt HA.out)).trans HA.out
  have hL2 := hL1.out.alloc hL1.out.size (.cells #[.bool m, .int .i64 sl, .int .i64 tc, .int .i64 tv, .int .i64 bc, .int .i64 bv] 36)
  have hS2 := heap_alloc_new w1 (.cells #[.bool m, .int .i64 sl, .int .i64 tc, .int .i64 tv, .int .i64 bc, .int .i64 bv] 36)
  have hKl : w.heap.size < w1.heap.size := pzLt HA.out
  obtain ⟨W2, hW2⟩ : ∃ W2, W2 = w1.alloc (.cells #[.bool m, .int .i64 sl, .int .i64 tc, .int .i64 tv, .int .i64 bc, .int .i64 bv] 36) := ⟨_, rfl⟩
  rw [← hW2] at hA2 hL2 hS2 ⊢
  generalize w1.heap.size = K at *
  have HA2 : Hid (W2.heap[w.heap.size]? = _) := hA2
  have HL2 : Hid (Below w.heap.size w W2) := hL2
  clear hW2 HA hL1 hL2
  have a0 := pzCell hA2 0 rfl
  have a1 := pzCell hA2 1 rfl
  have a2 := pzCell hA2 2 rfl
  have a3 := pzCell hA2 3 rfl
  have c0 := pzCell hS2 0 rfl
  have c1 := pzCell hS2 1 rfl
  have c2 := pzCell hS2 2 rfl
  have c3 := pzCell hS2 3 rfl
  have c4 := pzCell hS2 4 rfl
  have c5 := pzCell hS2 5 rfl
  have q3 := pzFroz hA2
  have q4 := pzLt hA2
  have q5 := pzLt hS2
  clear hA2 hS2
  have h3 : (0 < sl ∧ (bv == 0) = false) ∨ ¬ 0 < sl := by
    rcases h2 with h | h
    · exact .inr (by omega)
    · by_cases h' : 0 < sl
      · exact .inl ⟨h', h⟩
      · exact .inr h'
  clear h2
  rcases h3 with ⟨h2, h3⟩ | h2
  all_goals
    go_upto_region 10 with fail
    refine wp_region_float (by kernel_rfl) (fun hS => ?_)
    refine fl_take (i := 0) (d := 44) (v := .agg #[.bool m, .int .i64 sl, .int .i64 tc, .int .i64 tv, .int .i64 bc, .int .i64 bv]) rfl rfl rfl (by kernel_rfl) (by kernel_rfl) (by kernel_rfl) hS ?_ ?_
    · intro w' hk
      have e0 := (hk K 0 q5).trans c0
      have e1 := (hk K 1 q5).trans c1
      have e2 := (hk K 2 q5).trans c2
      have e3 := (hk K 3 q5).trans c3
      have e4 := (hk K 4 q5).trans c4
      have e5 := (hk K 5 q5).trans c5
      go_simp
    simp only [Act.put, List.setIfInBounds_toArray, List.set_cons_zero, List.set_cons_succ]
    refine fl_take (i := 2) (d := 46) (v := .agg #[.bool m, .int .i64 sl, .int .i64 tc, .int .i64 tv, .int .i64 bc, .int .i64 bv]) rfl rfl rfl (by kernel_rfl) (by kernel_rfl) (by kernel_rfl) hS ?_ ?_
    · intro w' hk
      have e0 := (hk K 0 q5).trans c0
      have e1 := (hk K 1 q5).trans c1
      have e2 := (hk K 2 q5).trans c2
      have e3 := (hk K 3 q5).trans c3
      have e4 := (hk K 4 q5).trans c4
      have e5 := (hk K 5 q5).trans c5
      go_simp
    simp only [Act.put, List.setIfInBounds_toArray, List.set_cons_zero, List.set_cons_succ]
    refine float_pend (z := #[.int .i64 0, .int .i64 0, .int .i64 0]) (T := 40) (ja := 5) (js := 6) rfl rfl rfl rfl rfl (fun a w => by go_simp) [1, 3, 4] _ _ _ (fun _ => False) (by kernel_rfl) (by kernel_rfl) ?_ (Nat.le_refl _) (fun _ h => h.elim) hS
    intro W1 hW1
    refine ⟨_, 45, _, _, rfl, rfl, by go_simp, (HN.out _).mono ?_⟩
    rintro e w1 ⟨rfl, hb1⟩
    refine ⟨_, rfl, hb1, ?_⟩
    simp only [Act.put, List.setIfInBounds_toArray, List.set_cons_zero, List.set_cons_succ]
    intro W2' hW2
    refine ⟨_, 47, _, _, rfl, rfl, by go_simp, (HD.out _).mono ?_⟩
    rintro e w2 ⟨rfl, hb2⟩
    refine ⟨_, rfl, hb2, ?_⟩
    simp only [Act.put, List.setIfInBounds_toArray, List.set_cons_zero, List.set_cons_succ]
    intro W3 hW3
    refine ⟨_, 48, _, _, rfl, rfl, by go_simp, (HQ.out _).mono ?_⟩
    rintro e w3 ⟨rfl, hb3⟩
    refine ⟨_, rfl, hb3, ?_⟩
    simp only [Act.put, List.setIfInBounds_toArray, List.set_cons_zero, List.set_cons_succ]
    unfold Fl
    refine after_store ?_ _ _ _ #[.int .i64 C, .int .i64 X, .int .i64 Y] (by rfl) (by rfl) (fun _ => by rfl) (fun _ => by rfl) (by simp) (by kernel_rfl) (by simp [Value.oneCell']) ?_
    · exact Nat.le_refl _
    intro k1 V1 hK1 hk1 hk2 hF hoth hsz hcell
    simp only [Act.put, List.setIfInBounds_toArray, List.set_cons_zero, List.set_cons_succ]
    refine NoPanic.normal ?_
    clear hF hoth hsz hW1 hb1 hW2 hb2 hW3 hb3 hS w1 w2 w3 W1 W2' W3
    have hA3 := (hK1.2.block _ q4).trans HA2.out
    have hL3 : Hid (Below w.heap.size w V1) := HL2.out.trans (hK1.2.mono HL2.out.size)
    have r0 : V1.cell? ⟨k1, 0, none⟩ = some (.int .i64 C) := hcell 0 _ rfl
    have r1 : V1.cell? ⟨k1, 1, none⟩ = some (.int .i64 X) := hcell 1 _ rfl
    have r2 : V1.cell? ⟨k1, 2, none⟩ = some (.int .i64 Y) := hcell 2 _ rfl
    clear HL2 HA2 a0 a1 a2 a3 c0 c1 c2 c3 c4 c5 q3 q4 q5 hcell hK1 hk1 HN HD HQ H
    have HA2 : Hid (V1.heap[w.heap.size]? = _) := hA3
    have HL2 : Hid (Below w.heap.size w V1) := hL3
    have a0 := pzCell hA3 0 rfl
    have a1 := pzCell hA3 1 rfl
    have a2 := pzCell hA3 2 rfl
    have a3 := pzCell hA3 3 rfl
    have q3 := pzFroz hA3
    have q4 := pzLt hA3
    clear hA3 hL3
    go_wp2
    clear a0 a1 a2 a3 q3 r0 r1 r2
    have hz := pz4 (b0 := (.int .i64 C)) (b1 := (.int .i64 0)) (b2 := (.int .i64 X)) (b3 := (.int .i64 Y)) HA2.out
    have hzl : Below w.heap.size w ((((V1.setCell ⟨w.heap.size, 0, none⟩ (.int .i64 C)).setCell ⟨w.heap.size, 1, none⟩ (.int .i64 0)).setCell ⟨w.heap.size, 2, none⟩ (.int .i64 X)).setCell ⟨w.heap.size, 3, none⟩ (.int .i64 Y)) := (((HL2.out.setCell (Nat.le_refl _) _).setCell (Nat.le_refl _) _).setCell (Nat.le_refl _) _).setCell (Nat.le_refl _) _
    obtain ⟨W3, hW3⟩ : ∃ W3, W3 = ((((V1.setCell ⟨w.heap.size, 0, none⟩ (.int .i64 C)).setCell ⟨w.heap.size, 1, none⟩ (.int .i64 0)).setCell ⟨w.heap.size, 2, none⟩ (.int .i64 X)).setCell ⟨w.heap.size, 3, none⟩ (.int .i64 Y)) := ⟨_, rfl⟩
    rw [← hW3] at hz hzl ⊢
    clear hW3
    have d0 := pzCell hz 0 rfl
    have d1 := pzCell hz 1 rfl
    have d2 := pzCell hz 2 rfl
    have d3 := pzCell hz 3 rfl
    have dl := pzLt hz
    refine bodyPost_ret (by simp [results, Try.results5, go_sem, d0, d1, d2, d3, dl]) rfl ⟨rfl, hzl⟩
theorem impl_pf (s : ByteArray) (w : World) (hs : s.size ≤ 1048576) : PFi s (pfQ s) w := by
  by_cases h4 : 4000 < s.size
  · have e : pfQ s = ⟨2, 0, 0, 0⟩ := by unfold pfQ; rw [if_pos h4]
    rw [e]; exact pfi_many s w h4 hs
  have hs4 : s.size ≤ 4000 := by omega
  rcases sc_ends s hs4 with ⟨k, hk, a1, a2, q⟩ | ⟨a1, a2, q⟩ | ⟨a1, a2, q⟩
  · rw [q]; exact pfi_bad s w hs4 k (scan_bad hs4 hk a1 a2)
  · rw [q]; exact pfi_bad s w hs4 s.size (scan_cut hs4 a1 a2)
  · rw [q]
    have H := scan_good hs4 a1 a2
    have hx := st_ok s s.size hs4
    generalize stF s s.size = x at *
    obtain ⟨m, sl, tc, tv, bc, bv⟩ := x
    have H' : Hid (SCa s (.tuple #[.agg #[.bool m, .int .i64 sl, .int .i64 tc, .int .i64 tv, .int .i64 bc, .int .i64 bv], .int .i64 0, .bool true])) := H
    simp only
    by_cases h1 : 18 < tc ∨ 18 < bc
    · rw [if_pos h1]
      by_cases h2 : 18 < tc
      · exact pfi_r1 s w hs4 m sl tc tv bc bv H' h2
      · exact pfi_r2 s w hs4 m sl tc tv bc bv H' h2 (by omega)
    · rw [if_neg h1]
      by_cases h2 : 0 < sl ∧ bv = 0
      · rw [if_pos h2]
        exact pfi_z s w hs4 m sl tc tv bc bv H' (by omega) (by omega) h2.1 h2.2
      · rw [if_neg h2]
        have b0 := hx.tv0
        have b1 := hx.tv1
        have b2 := hx.bv0
        have b3 := hx.bv1
        have b4 := hx.s0
        simp only at b0 b1 b2 b3 b4
        have dn : 1 ≤ (if sl = 0 then (1 : Int) else bv) ∧ (if sl = 0 then (1 : Int) else bv) ≤ 4000000000000000000 := by split <;> omega
        have nn : -4000000000000000000 ≤ (if m = true then -tv else tv) ∧ (if m = true then -tv else tv) ≤ 4000000000000000000 := by split <;> omega
        refine pfi_q s w hs4 m sl tc tv bc bv H' (by omega) (by omega) ?_ (if m = true then -tv else tv) (if sl = 0 then 1 else bv) _ _ _ (fun V => impl_numerator ⟨m, sl, tc, tv, bc, bv⟩ V b0 b1) (fun V => impl_denominator ⟨m, sl, tc, tv, bc, bv⟩ V) (fun V => impl_rq_pos _ _ V dn.1 dn.2 nn.1 nn.2)
        by_cases h3 : 0 < sl
        · right
          simp only [beq_eq_false_iff_ne]
          exact fun h => h2 ⟨h3, h⟩
        · exact .inl h3
end Go.Proofs.Ytcojhkpdlmldcaa
