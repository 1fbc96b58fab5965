/- Proved here: the model's l5Naming, l5SameDevice and l5Count. -/
import Derived.Test.YtbfieehlekgjeaaNmK
namespace Go.Proofs.Ytbfieehlekgjeaa
open Go.RowKit
set_option linter.unusedVariables false
set_option linter.unusedSimpArgs false

set_option maxRecDepth 10000 in
set_option maxHeartbeats 3200000 in
theorem spec_naming (N : Int) {w : World} {v : Value} {s : List Int} (hn : s.length ≤ 1048576) (h : RdI w v s) :
    Calls Try.prog 48 #[v, .int .i64 N] w fun e w' => e = .returned (.bool (nmB s N)) ∧ Below w.heap.size w w' := by
  obtain ⟨a, c, rfl⟩ := h.form
  obtain ⟨n, hnn⟩ : ∃ n, n = s.length := ⟨_, rfl⟩
  obtain ⟨D, hD⟩ : ∃ D, D = nmB s N := ⟨_, rfl⟩
  rw [← hnn] at hn h ⊢
  rw [← hD]
  have H : Hid (RdI w (.slice a n c) s ∧ n = s.length ∧ D = nmB s N) := ⟨h, hnn, hD⟩
  clear h hnn hD
  by_cases hnN : (n : Int) = N
  case neg =>
    have HE : Hid (D = false) := by
      unfold Hid; rw [H.out.2.2]
      refine Bool.eq_false_iff.2 fun e => hnN ?_
      rw [H.out.2.1]; exact (nmB_iff.1 e).1
    go_enter Try.func48, Try.ntmps48
    go_wp2
    go_returns
    exact ⟨by rw [HE.out]; rfl, Below.refl _ _⟩
  subst hnN
  go_enter Try.func48, Try.ntmps48
  go_wp2
  go_loopw [5] (fun i wr => ∃ j : Nat, j ≤ n ∧ i = .int .i64 j ∧ Hid (Below w.heap.size w wr ∧ (∀ k, k < j → 0 ≤ s.getD k 0 ∧ s.getD k 0 < (n : Int)) ∧ ∀ i k, k < i → i < j → s.getD k 0 ≠ s.getD i 0)) (fun i _ => n - (intOf i).toNat)
  case atStart => exact ⟨0, Nat.zero_le _, rfl, Below.refl _ _, fun k hk => by omega, fun i k h1 h2 => by omega⟩
  case round =>
    obtain ⟨j, hjn, rfl, hR⟩ := hrel
    by_cases hlt : j < n
    · have hjl : j < s.length := by rw [← H.out.2.1]; exact hlt
      obtain ⟨g, o, c2, he, hg, hj⟩ := (H.out.1.below hR.out.1).ri (by rw [← H.out.2.1]; omega)
      simp only [Value.slice.injEq] at he
      obtain ⟨rfl, hx1, hx2⟩ := he
      clear hx1 hx2
      have c0 := hj j hjl
      obtain ⟨x, hx⟩ : ∃ x, x = s.getD j 0 := ⟨_, rfl⟩
      rw [← hx] at c0
      have HX : Hid (x = s.getD j 0 ∧ j < s.length) := ⟨hx, hjl⟩
      have HR : Hid (Below w.heap.size w wr ∧ (∀ k, k < j → 0 ≤ s.getD k 0 ∧ s.getD k 0 < (n : Int)) ∧ ∀ i k, k < i → i < j → s.getD k 0 ≠ s.getD i 0) := hR.out
      have HJ : Hid (∀ k, k < s.length → wr.cell? ⟨g, o + k, none⟩ = some (.int .i64 (s.getD k 0))) := hj
      clear hx hj hjl hR
      have b0 : (0 : Int) ≤ (j : Int) := by omega
      have b1 : (j : Int) < (n : Int) := by omega
      by_cases hneg : x < 0
      · have HE : Hid (D = false) := by
          unfold Hid; rw [H.out.2.2]
          refine Bool.eq_false_iff.2 fun e => ?_
          have := nmB_range e _ (mem_get HX.out.2 HX.out.1.symm)
          omega
        go_wp2
        go_returns
        exact ⟨by rw [HE.out]; rfl, HR.out.1⟩
      by_cases hge : (n : Int) ≤ x
      · have HE : Hid (D = false) := by
          unfold Hid; rw [H.out.2.2]
          refine Bool.eq_false_iff.2 fun e => ?_
          have := nmB_range e _ (mem_get HX.out.2 HX.out.1.symm)
          omega
        go_wp2
        go_returns
        exact ⟨by rw [HE.out]; rfl, HR.out.1⟩
      go_wp2
      go_loopw [6] (fun i wq => ∃ k : Nat, k ≤ j ∧ i = .int .i64 k ∧ Hid (Below wr.heap.size wr wq ∧ ∀ k', k' < k → s.getD k' 0 ≠ x)) (fun i _ => j - (intOf i).toNat)
      case atStart => exact ⟨0, Nat.zero_le _, rfl, Below.refl _ _, fun k hk => by omega⟩
      case round =>
        obtain ⟨k, hkj, rfl, hQ⟩ := hrel
        have HB : Hid (Below w.heap.size w wr) := HR.out.1.trans (hQ.out.1.mono HR.out.1.size)
        by_cases hklt : k < j
        · have c1 := HJ.out k (by have := HX.out.2; omega)
          obtain ⟨y, hy⟩ : ∃ y, y = s.getD k 0 := ⟨_, rfl⟩
          rw [← hy] at c1
          have c0' := (hQ.out.1.cell (p := ⟨g, o + j, none⟩) hg).trans c0
          have c1' := (hQ.out.1.cell (p := ⟨g, o + k, none⟩) hg).trans c1
          have hg' := Nat.lt_of_lt_of_le hg hQ.out.1.size
          have HY : Hid (y = s.getD k 0) := hy
          have HQ : Hid _ := hQ.out
          clear hy c1 hQ
          clear c0
          have b2 : (0 : Int) ≤ (k : Int) := by omega
          have b3 : (k : Int) < (n : Int) := by omega
          by_cases hxy : y = x
          · have HE : Hid (D = false) := by
              unfold Hid; rw [H.out.2.2]
              refine Bool.eq_false_iff.2 fun e => ?_
              exact nmB_twice e j k hklt HX.out.2 (by rw [← HY.out, ← HX.out.1]; exact hxy)
            subst hxy
            go_wp2
            go_quiet (fail)
            go_wp2
            go_returns
            exact ⟨by rw [HE.out]; rfl, below_drewN HB.out _⟩
          · have HP : Hid (∀ k', k' < k + 1 → s.getD k' 0 ≠ x) := fun k' hk' => by
              rcases (by omega : k' < k ∨ k' = k) with e | rfl
              · exact HQ.out.2 k' e
              · rw [← HY.out]; exact hxy
            go_wp2
            go_quiet (fail)
            go_wp2
            go_roundw
            case rel => exact ⟨k + 1, by omega, by go_num, below_drewN HQ.out.1 _, HP.out⟩
            case measure => simp [intOf]; omega
        · have HP : Hid ((∀ k, k < j + 1 → 0 ≤ s.getD k 0 ∧ s.getD k 0 < (n : Int)) ∧ ∀ i k, k < i → i < j + 1 → s.getD k 0 ≠ s.getD i 0) := by
            refine ⟨fun k' hk' => ?_, fun i' k' h1 h2 => ?_⟩
            · rcases (by omega : k' < j ∨ k' = j) with e | rfl
              · exact HR.out.2.1 k' e
              · rw [← HX.out.1]; omega
            · rcases (by omega : i' < j ∨ i' = j) with e | rfl
              · exact HR.out.2.2 i' k' h1 e
              · rw [← HX.out.1]; exact hQ.out.2 k' (by omega)
          clear hQ c0
          go_wp2
          go_roundw
          case rel => exact ⟨j + 1, by omega, by go_num, HB.out, HP.out⟩
          case measure => simp [intOf]; omega
    · have HE : Hid (D = true) := by
        unfold Hid; rw [H.out.2.2]
        refine nmB_of (by rw [← H.out.2.1]) (fun x hx => ?_) (nodup_get fun i k h1 h2 => hR.out.2.2 i k h1 (by rw [← H.out.2.1] at h2; omega))
        obtain ⟨k, hk, e⟩ := List.getElem_of_mem hx
        have := hR.out.2.1 k (by rw [← H.out.2.1] at hk; omega)
        rw [getD_at hk, e] at this
        exact this
      have HB : Hid (Below w.heap.size w wr) := hR.out.1
      clear hR
      go_wp2
      go_returns
      exact ⟨by rw [HE.out]; rfl, HB.out⟩

set_option maxRecDepth 10000 in
set_option maxHeartbeats 3200000 in
theorem spec_sameD (r q : Rd) (d e : Dv) (w : World) (hd : d.p.length ≤ 1048576) (he : e.p.length ≤ 1048576) (hr : Rd1 w r d) (hq : Rd1 w q e) :
    Calls Try.prog 76 #[.agg #[.int .i64 r.k, .slice r.a r.n r.c], .agg #[.int .i64 q.k, .slice q.a q.n q.c]] w fun x w' => x = .returned (.bool (decide (d = e))) ∧ Below w.heap.size w w' := by
  obtain ⟨K, a1, n, c1⟩ := r
  obtain ⟨L, a2, m, c2⟩ := q
  obtain ⟨D, hD⟩ : ∃ D, D = decide (d = e) := ⟨_, rfl⟩
  rw [← hD]
  dsimp only
  have hnn : n = d.p.length := hr.p.len
  have hmm : m = e.p.length := hq.p.len
  have H : Hid ((RdI w (.slice a1 n c1) d.p ∧ RdI w (.slice a2 m c2) e.p) ∧ n = d.p.length ∧ m = e.p.length ∧ K = d.k ∧ L = e.k ∧ D = decide (d = e)) := ⟨⟨hr.p, hq.p⟩, hnn, hmm, hr.k, hq.k, hD⟩
  rw [← hnn] at hd
  rw [← hmm] at he
  clear hr hq hnn hmm hD
  by_cases hK : K = L
  case neg =>
    have HE : Hid (D = false) := by
      unfold Hid; rw [H.out.2.2.2.2.2]
      exact decide_eq_false (fun x => hK (by rw [H.out.2.2.2.1, H.out.2.2.2.2.1, x]))
    go_enter Try.func76, Try.ntmps76
    go_wp2
    go_returns
    exact ⟨by rw [HE.out]; rfl, by (repeat' (first | (with_reducible exact Below.refl _ _) | (with_reducible assumption) | (with_reducible refine Below.setCell ?_ ?_ _) | (with_reducible refine Below.alloc ?_ ?_ _) | (with_reducible refine below_drewN ?_ _) | (with_reducible refine Below.drew ?_) | (with_reducible exact Nat.le_refl _) | omega | (simp; done) | (simp; omega)))⟩
  subst hK
  by_cases hnm : n = m
  case neg =>
    have HE : Hid (D = false) := by
      unfold Hid; rw [H.out.2.2.2.2.2]
      exact decide_eq_false (fun x => hnm (by rw [H.out.2.1, H.out.2.2.1, x]))
    have hi : ¬ (n : Int) = (m : Int) := by omega
    go_enter Try.func76, Try.ntmps76
    go_wp2
    go_returns
    exact ⟨by rw [HE.out]; rfl, by (repeat' (first | (with_reducible exact Below.refl _ _) | (with_reducible assumption) | (with_reducible refine Below.setCell ?_ ?_ _) | (with_reducible refine Below.alloc ?_ ?_ _) | (with_reducible refine below_drewN ?_ _) | (with_reducible refine Below.drew ?_) | (with_reducible exact Nat.le_refl _) | omega | (simp; done) | (simp; omega)))⟩
  subst hnm
  have HK : Hid (d.p = e.p ↔ d = e) := by
    refine ⟨fun h => ?_, fun h => by rw [h]⟩
    have h1 : d.k = e.k := by rw [← H.out.2.2.2.1, H.out.2.2.2.2.1]
    cases d; cases e
    simp at h h1; rw [h, h1]
  go_enter Try.func76, Try.ntmps76
  go_wp2
  go_loopw [5] (fun i wr => ∃ j : Nat, j ≤ n ∧ i = .int .i64 j ∧ Hid ((Below w.heap.size w wr ∧ wr.heap[w.heap.size]? = some (.cells #[.int .i64 K, .slice a1 n c1] 82) ∧ wr.heap[w.heap.size + 1]? = some (.cells #[.int .i64 K, .slice a2 n c2] 82)) ∧ ∀ k, k < j → d.p.getD k 0 = e.p.getD k 0)) (fun i _ => n - (intOf i).toNat)
  case atStart => exact ⟨0, Nat.zero_le _, rfl, ⟨by (repeat' (first | (with_reducible exact Below.refl _ _) | (with_reducible assumption) | (with_reducible refine Below.setCell ?_ ?_ _) | (with_reducible refine Below.alloc ?_ ?_ _) | (with_reducible refine below_drewN ?_ _) | (with_reducible refine Below.drew ?_) | (with_reducible exact Nat.le_refl _) | omega | (simp; done) | (simp; omega))), (Below.heap_alloc _ _ _ (by simp)).trans (heap_alloc_new w _), hp_at1 w _ _⟩, fun k hk => by omega⟩
  case round =>
    obtain ⟨j, hjn, rfl, hR⟩ := hrel
    obtain ⟨p0, p1, pf, plt⟩ := two_at hR.out.1.2.1
    obtain ⟨q0, q1, qf, qlt⟩ := two_at hR.out.1.2.2
    by_cases hlt : j < n
    · have hjp : j < d.p.length := by rw [← H.out.2.1]; exact hlt
      have hjq : j < e.p.length := by rw [← H.out.2.2.1]; exact hlt
      obtain ⟨g, o, d1, he', hg, hj⟩ := (H.out.1.1.below hR.out.1.1).ri (by omega)
      simp only [Value.slice.injEq] at he'
      obtain ⟨rfl, hx1, hx2⟩ := he'
      obtain ⟨g', o', d2, he', hg', hj'⟩ := (H.out.1.2.below hR.out.1.1).ri (by omega)
      simp only [Value.slice.injEq] at he'
      obtain ⟨rfl, hx3, hx4⟩ := he'
      clear hx1 hx2 hx3 hx4
      have c0 := hj j hjp
      have e0 := hj' j hjq
      obtain ⟨x, hx⟩ : ∃ x, x = d.p.getD j 0 := ⟨_, rfl⟩
      obtain ⟨y, hy⟩ : ∃ y, y = e.p.getD j 0 := ⟨_, rfl⟩
      rw [← hx] at c0
      rw [← hy] at e0
      have HX : Hid (x = d.p.getD j 0 ∧ y = e.p.getD j 0) := ⟨hx, hy⟩
      have HR : Hid _ := hR.out
      clear hx hy hj hj' hR
      have b0 : (0 : Int) ≤ (j : Int) := by omega
      have b1 : (j : Int) < (n : Int) := by omega
      by_cases hxy : x = y
      · subst hxy
        have HP : Hid (∀ k, k < j + 1 → d.p.getD k 0 = e.p.getD k 0) := fun k hk => by
          rcases (by omega : k < j ∨ k = j) with e | rfl
          · exact HR.out.2 k e
          · rw [← HX.out.1, ← HX.out.2]
        go_wp2
        go_quiet (fail)
        go_wp2
        go_roundw
        case rel => exact ⟨j + 1, by omega, by go_num, ⟨below_drewN HR.out.1.1 _, HR.out.1.2⟩, HP.out⟩
        case measure => simp [intOf]; omega
      · have HE : Hid (D = false) := by
          unfold Hid; rw [H.out.2.2.2.2.2]
          exact decide_eq_false (fun e => hxy (by rw [HX.out.1, HX.out.2, e]))
        go_wp2
        go_quiet (fail)
        go_wp2
        go_returns
        exact ⟨by rw [HE.out]; rfl, below_drewN HR.out.1.1 _⟩
    · have HE : Hid (D = true) := by
        unfold Hid; rw [H.out.2.2.2.2.2]
        refine decide_eq_true (HK.out.1 (List.ext_getElem (by rw [← H.out.2.1, ← H.out.2.2.1]) fun k h1 h2 => ?_))
        have := hR.out.2 k (by rw [← H.out.2.1] at h1; omega)
        rw [getD_at h1, getD_at h2] at this
        exact this
      have HB : Hid (Below w.heap.size w wr) := hR.out.1.1
      clear hR
      go_wp2
      go_returns
      exact ⟨by rw [HE.out]; rfl, HB.out⟩

set_option maxRecDepth 10000 in
set_option maxHeartbeats 3200000 in
theorem spec_count (r : Rd) (d : Dv) {w : World} {v : Value} {s : List Dv} (hs : s.length ≤ 12) (hpl : ∀ e ∈ s, e.p.length ≤ 4) (hd : d.p.length ≤ 1048576) (hr : Rd1 w r d) (h : RD w v s) :
    Calls Try.prog 54 #[v, .agg #[.int .i64 r.k, .slice r.a r.n r.c]] w fun e w' => e = .returned (.int .i64 (s.count d : Int)) ∧ Below w.heap.size w w' := by
  obtain ⟨a, c, rfl⟩ := h.form
  obtain ⟨n, hnn⟩ : ∃ n, n = s.length := ⟨_, rfl⟩
  rw [← hnn] at hs h ⊢
  obtain ⟨K, pa, pn, pc⟩ := r
  dsimp only
  have H : Hid (RD w (.slice a n c) s ∧ n = s.length ∧ (∀ e ∈ s, e.p.length ≤ 4) ∧ d.p.length ≤ 1048576 ∧ K = d.k ∧ RdI w (.slice pa pn pc) d.p) := ⟨h, hnn, hpl, hd, hr.k, hr.p⟩
  clear h hnn hpl hd hr
  go_enter Try.func54, Try.ntmps54
  go_wp2
  go_loopw [5, 6] (fun q i wr => ∃ k : Nat, k ≤ n ∧ i = .int .i64 k ∧ ∃ t : Nat, q = .int .i64 t ∧ t ≤ k ∧ Hid (t = (s.take k).count d ∧ Below w.heap.size w wr ∧ wr.heap[w.heap.size]? = some (.cells #[.int .i64 K, .slice pa pn pc] 82))) (fun _ i _ => n - (intOf i).toNat)
  case atStart => exact ⟨0, Nat.zero_le _, rfl, 0, rfl, Nat.le_refl _, by simp, by (repeat' (first | (with_reducible exact Below.refl _ _) | (with_reducible assumption) | (with_reducible refine Below.setCell ?_ ?_ _) | (with_reducible refine Below.alloc ?_ ?_ _) | (with_reducible refine below_drewN ?_ _) | (with_reducible refine Below.drew ?_) | (with_reducible exact Nat.le_refl _) | omega | (simp; done) | (simp; omega))), heap_alloc_new w _⟩
  case round =>
    obtain ⟨k, hk, rfl, t, rfl, htk, hR⟩ := hrel
    by_cases hlt : k < n
    · have hkl : k < s.length := by rw [← H.out.2.1]; exact hlt
      obtain ⟨g, o, c2, he, hg, x, hx, c0, c1⟩ := (H.out.1.below hR.out.2.1).at hkl
      simp only [Value.slice.injEq] at he
      obtain ⟨rfl, hx1, hx2⟩ := he
      clear hx1 hx2
      obtain ⟨XK, xa, xn, xc⟩ := x
      dsimp only at c0 c1
      obtain ⟨p0, p1, pf, plt⟩ := two_at hR.out.2.2
      have HR : Hid (t = (s.take k).count d ∧ Below w.heap.size w wr ∧ wr.heap[w.heap.size]? = some (.cells #[.int .i64 K, .slice pa pn pc] 82)) := hR.out
      obtain ⟨D, hD⟩ : ∃ D, D = decide (s[k] = d) := ⟨_, rfl⟩
      have hc1 : Hid (∀ X : Und wr.heap.size wr, Calls Try.prog 76 #[.agg #[.int .i64 XK, .slice xa xn xc], .agg #[.int .i64 K, .slice pa pn pc]] X.W fun e w' => e = .returned (.bool D) ∧ Below X.W.heap.size X.W w') := fun X => by
        rw [hD]
        exact spec_sameD ⟨XK, xa, xn, xc⟩ ⟨K, pa, pn, pc⟩ s[k] d X.W (by have := H.out.2.2.1 _ (List.getElem_mem hkl); omega) H.out.2.2.2.1 (hx.below X.below) ⟨H.out.2.2.2.2.1, (H.out.2.2.2.2.2.below HR.out.2.1).below X.below⟩
      have HD : Hid (D = decide (s[k] = d)) := hD
      clear hx hR hD
      have b0 : (0 : Int) ≤ (k : Int) := by omega
      have b1 : (k : Int) < (n : Int) := by omega
      go_wp2_with (fail)
      (refine wp_region_und (by kernel_rfl) (by kernel_rfl) (fun hund => ?_); (repeat (go_big_quiet_step (first | (go_at_call 76; with_reducible refine und_call ?_ (hc1.out _); exact Nat.le_refl _)))); with_reducible refine wpQuiet_nil ?_; clear hund; intro W1 hb1; obtain ⟨hc1, hf1⟩ := bcell hb1)
      have HB4 : Hid (Below w.heap.size w W1 ∧ W1.heap[w.heap.size]? = some (.cells #[.int .i64 K, .slice pa pn pc] 82)) := ⟨HR.out.2.1.trans (hb1.mono HR.out.2.1.size), (hb1.block _ plt).trans HR.out.2.2⟩
      clear hb1 hc1 hf1 c0 c1 p0 p1 pf plt
      by_cases hp : s[k] = d
      · have HE : Hid ((t + 1 : Nat) = (s.take (k + 1)).count d) := by
          unfold Hid
          rw [count_step hkl, if_pos hp, HR.out.1]
        obtain rfl : D = true := by rw [HD.out]; exact decide_eq_true hp
        clear hp
        go_wp2
        go_roundw
        case rel => exact ⟨k + 1, by omega, by go_num, t + 1, by go_num, by omega, HE.out, HB4.out⟩
        case measure => simp [intOf]; omega
      · have HE : Hid (t = (s.take (k + 1)).count d) := by
          unfold Hid
          rw [count_step hkl, if_neg hp, HR.out.1]
          rfl
        obtain rfl : D = false := by rw [HD.out]; exact decide_eq_false hp
        clear hp
        go_wp2
        go_roundw
        case rel => exact ⟨k + 1, by omega, by go_num, t, rfl, by omega, HE.out, HB4.out⟩
        case measure => simp [intOf]; omega
    · have HE : Hid (t = s.count d ∧ Below w.heap.size w wr) := by
        refine ⟨?_, hR.out.2.1⟩
        rw [hR.out.1, List.take_of_length_le (by rw [← H.out.2.1]; omega)]
      clear hR
      go_wp2
      go_returns
      exact ⟨by rw [← HE.out.1]; rfl, HE.out.2⟩

end Go.Proofs.Ytbfieehlekgjeaa
