/- Proved here: SitesOf of the program: siC, siL. -/
import Derived.Test.YtgjdcdhdfhkfcaaSiM
import Derived.Test.YtgjdcdhdfhkfcaaIns
namespace Go.Proofs.Ytgjdcdhdfhkfcaa
open Go.RowKit
set_option linter.unusedVariables false
set_option linter.unusedSimpArgs false

set_option maxRecDepth 10000 in
set_option maxHeartbeats 12800000 in
theorem impl_sites (r st : Int) (w : World) :
    Calls Try.prog 11 #[.int .i64 r, .int .i64 st] w fun e w' => ∃ v, e = .returned (.agg #[.int .i64 (siC r st), v]) ∧ OG 31 2 siC2 w' w.heap.size v (siL r st) ∧ Below w.heap.size w w' := by
  obtain ⟨i0, hi, hz0, hz1, hz2⟩ := info_parts info_Site
  obtain ⟨A, hA⟩ : ∃ A, A = decide (0 ≤ r ∧ r ≤ 50) := ⟨_, rfl⟩
  obtain ⟨B, hB⟩ : ∃ B, B = decide (1 ≤ st ∧ st ≤ 50) := ⟨_, rfl⟩
  have HA : Hid (∀ W, Calls Try.prog 42 #[.int .i64 r, .int .i64 0, .int .i64 50] W fun e w' => e = .returned (.bool A) ∧ w' = W) := fun W => impl_ins r 0 50 A hA W
  have HB : Hid (∀ W, Calls Try.prog 42 #[.int .i64 st, .int .i64 1, .int .i64 50] W fun e w' => e = .returned (.bool B) ∧ w' = W) := fun W => impl_ins st 1 50 B hB W
  have q0 : (w.alloc (.cells #[.int .i64 0, .slice none 0 0] 28)).heap[w.heap.size]? = some (.cells #[.int .i64 0, .slice none 0 0] 28) := heap_alloc_new _ _
  cases A with
  | false =>
    have hc : Hid (siC r st = 3 ∧ siL r st = []) := by
      have e : siC r st = 3 := by unfold siC; rw [if_neg (fun h => by have := h.1; simp at hA; omega)]
      exact ⟨e, by unfold siL; rw [e, if_neg (by decide)]⟩
    clear hA hB q0
    go_enter Try.func11, Try.ntmps11
    go_wp2_with (fail)
    refine (HA.out _).mono ?_
    rintro e w3 ⟨rfl, hw3⟩
    subst w3
    go_wp2
    go_returns
    exact ⟨_, by rw [hc.out.1], by rw [hc.out.2]; exact st_nil _ _, by (repeat' (first | (with_reducible exact Below.refl _ _) | (with_reducible assumption) | (with_reducible refine Below.setCell ?_ ?_ _) | (with_reducible refine Below.alloc ?_ ?_ _) | (with_reducible refine below_drewN ?_ _) | (with_reducible refine Below.drew ?_) | (with_reducible exact Nat.le_refl _) | omega | (simp; done) | (simp; omega)))⟩
  | true =>
  cases B with
  | false =>
    have hc : Hid (siC r st = 3 ∧ siL r st = []) := by
      have e : siC r st = 3 := by unfold siC; rw [if_neg (fun h => by have := h.2; simp at hB; omega)]
      exact ⟨e, by unfold siL; rw [e, if_neg (by decide)]⟩
    clear hA hB q0
    go_enter Try.func11, Try.ntmps11
    go_wp2_with (fail)
    refine (HA.out _).mono ?_
    rintro e w3 ⟨rfl, hw3⟩
    subst w3
    go_wp2_with (fail)
    refine (HB.out _).mono ?_
    rintro e w3 ⟨rfl, hw3⟩
    subst w3
    go_wp2
    go_returns
    exact ⟨_, by rw [hc.out.1], by rw [hc.out.2]; exact st_nil _ _, by (repeat' (first | (with_reducible exact Below.refl _ _) | (with_reducible assumption) | (with_reducible refine Below.setCell ?_ ?_ _) | (with_reducible refine Below.alloc ?_ ?_ _) | (with_reducible refine below_drewN ?_ _) | (with_reducible refine Below.drew ?_) | (with_reducible exact Nat.le_refl _) | omega | (simp; done) | (simp; omega)))⟩
  | true =>
  have hr : 0 ≤ r ∧ r ≤ 50 := by simpa using hA.symm
  have hs : 1 ≤ st ∧ st ≤ 50 := by simpa using hB.symm
  obtain ⟨M, hM⟩ : ∃ M : Nat, M = siM r st := ⟨_, rfl⟩
  have hq : r.tdiv st = (M : Int) := by
    rw [Int.tdiv_eq_ediv_of_nonneg hr.1, hM, siM]; have := Int.ediv_nonneg hr.1 (show 0 ≤ st by omega); omega
  have hM50 := (at_b hr hs hM (k := 0) (Nat.zero_le _)).2.2.2.2.2
  have hst0 : ¬ st = 0 := by omega
  obtain ⟨R, hR⟩ : ∃ R : Int, R = (M : Int) * st := ⟨_, rfl⟩
  have hRb : 0 ≤ R ∧ R ≤ 50 := by have := at_b hr hs hM (k := 0) (Nat.zero_le _); rw [hR]; exact ⟨this.2.2.2.1, this.2.2.2.2.1⟩
  have e1 : IntKind.i64.wrap (M : Int) = M := by rw [IntKind.wrap_i64]; omega
  have e2 : IntKind.i64.wrap ((M : Int) * st) = R := by rw [← hR, IntKind.wrap_i64]; omega
  have e3 : IntKind.i64.wrap (0 - R) = -R := by rw [IntKind.wrap_i64]; omega
  have e4 : IntKind.i64.wrap (-R) = -R := by rw [IntKind.wrap_i64]; omega
  have e5 : IntKind.i64.wrap (0 - (M : Int)) = -(M : Int) := by rw [IntKind.wrap_i64]; omega
  have e6 : IntKind.i64.wrap (-(M : Int)) = -(M : Int) := by rw [IntKind.wrap_i64]; omega
  have H : Hid (R = (M : Int) * st ∧ M = siM r st ∧ (0 ≤ r ∧ r ≤ 50) ∧ (1 ≤ st ∧ st ≤ 50)) := ⟨hR, hM, hr, hs⟩
  have erq := sq_b (x := r) (by omega) (by omega)
  obtain ⟨RR, hRR⟩ : ∃ RR, RR = r * r := ⟨_, rfl⟩
  have err : IntKind.i64.wrap (r * r) = RR := by rw [hRR, IntKind.wrap_i64]; omega
  have HRR : Hid (RR = r * r) := hRR
  clear hR hM hRb hA hB q0 erq hRR
  obtain ⟨W0, hW0⟩ : ∃ W, W = w.alloc (.cells #[.int .i64 0, .slice none 0 0] 28) := ⟨_, rfl⟩
  have HW0 : Hid (Below w.heap.size w W0 ∧ W0.heap[w.heap.size]? = some (.cells #[.int .i64 0, .slice none 0 0] 28) ∧ W0.heap.size = w.heap.size + 1) := by
    rw [hW0]; exact ⟨by (repeat' (first | (with_reducible exact Below.refl _ _) | (with_reducible assumption) | (with_reducible refine Below.setCell ?_ ?_ _) | (with_reducible refine Below.alloc ?_ ?_ _) | (with_reducible refine below_drewN ?_ _) | (with_reducible refine Below.drew ?_) | (with_reducible exact Nat.le_refl _) | omega | (simp; done) | (simp; omega))), heap_alloc_new _ _, by simp⟩
  go_enter Try.func11, Try.ntmps11
  go_wp2_with (fail)
  rw [← hW0]
  clear hW0
  refine (HA.out _).mono ?_
  rintro e w3 ⟨rfl, hw3⟩
  subst w3
  go_wp2_with (fail)
  refine (HB.out _).mono ?_
  rintro e w3 ⟨rfl, hw3⟩
  subst w3
  clear HA HB
  go_wp2
  go_loopw [5, 7] (fun q i wr => ∃ (j : Nat) (v : Value) (Y : Int), j ≤ 2 * M + 1 ∧ v = q ∧ i = .int .i64 Y ∧ Hid (Y = ((j : Int) - M) * st ∧ OG 31 2 siC2 wr W0.heap.size v (siA r st M j) ∧ Below W0.heap.size W0 wr)) (fun _ i _ => (R + st - intOf i).toNat)
  case atStart => exact ⟨0, _, _, Nat.zero_le _, rfl, rfl, by rw [H.out.1]; simp [Int.neg_mul], st_nil _ _, Below.refl _ _⟩
  case round =>
    obtain ⟨j, v, Y, hj, rfl, rfl, hQ⟩ := hrel
    have hb := at_b H.out.2.2.1 H.out.2.2.2 H.out.2.1 hj
    rw [← H.out.1, ← hQ.out.1] at hb
    by_cases hlt : j < 2 * M + 1
    · have ht : Y ≤ R := hb.2.2.1.2 hlt
      have hY := hQ.out.1
      have hYb : -100 ≤ Y ∧ Y ≤ 100 := by rw [hY]; exact ⟨(at_b H.out.2.2.1 H.out.2.2.2 H.out.2.1 hj).1, (at_b H.out.2.2.1 H.out.2.2.2 H.out.2.1 hj).2.1⟩
      have HO : Hid (Y = ((j : Int) - M) * st ∧ Y = ((j : Int) - M) * st ∧ OG 31 2 siC2 wr W0.heap.size v (siA r st M j) ∧ Below W0.heap.size W0 wr) := ⟨hQ.out.1, hY, hQ.out.2⟩
      have ovb : -100 ≤ Y ∧ Y ≤ 100 := hYb
      have eY : True := trivial
      have eyq := sq_b (x := Y) (by omega) (by omega)
      obtain ⟨YY, hYY⟩ : ∃ YY, YY = Y * Y := ⟨_, rfl⟩
      rw [← hYY] at eyq
      have eyy : IntKind.i64.wrap (Y * Y) = YY := by rw [← hYY, IntKind.wrap_i64]; omega
      have HYY : Hid (YY = Y * Y) := hYY
      clear hb hQ hY hYY
      go_wp2
      go_loopw [5, 8] (fun q i wr => ∃ (k : Nat) (v : Value) (X : Int), k ≤ 2 * M + 1 ∧ v = q ∧ i = .int .i64 X ∧ Hid (X = ((k : Int) - M) * st ∧ OG 31 2 siC2 wr W0.heap.size v (siA r st M j ++ siR r st M Y k) ∧ Below W0.heap.size W0 wr)) (fun _ i _ => (R + st - intOf i).toNat)
      case atStart => exact ⟨0, _, _, Nat.zero_le _, rfl, rfl, by rw [H.out.1]; simp [Int.neg_mul], by rw [siR, List.append_nil]; exact HO.out.2.2.1, HO.out.2.2.2⟩
      case round =>
        obtain ⟨k, v, X, hk, rfl, rfl, hQ⟩ := hrel
        have hb := at_b H.out.2.2.1 H.out.2.2.2 H.out.2.1 hk
        rw [← H.out.1, ← hQ.out.1] at hb
        by_cases hltk : k < 2 * M + 1
        · have htk : X ≤ R := hb.2.2.1.2 hltk
          
          have hX := hQ.out.1
          have hXb : -100 ≤ X ∧ X ≤ 100 := by rw [hX]; exact ⟨(at_b H.out.2.2.1 H.out.2.2.2 H.out.2.1 hk).1, (at_b H.out.2.2.1 H.out.2.2.2 H.out.2.1 hk).2.1⟩
          have ivb : -100 ≤ X ∧ X ≤ 100 := hXb
          have eX : True := trivial
          have exq := sq_b (x := X) (by omega) (by omega)
          obtain ⟨XX, hXX⟩ : ∃ XX, XX = X * X := ⟨_, rfl⟩
          rw [← hXX] at exq
          have exx : IntKind.i64.wrap (X * X) = XX := by rw [← hXX, IntKind.wrap_i64]; omega
          have eadd : IntKind.i64.wrap (XX + YY) = XX + YY := by rw [IntKind.wrap_i64]; omega
          have HK : Hid (X = ((k : Int) - M) * st ∧ X = ((k : Int) - M) * st ∧ OG 31 2 siC2 wr W0.heap.size v (siA r st M j ++ siR r st M Y k) ∧ Below W0.heap.size W0 wr) := ⟨hQ.out.1, hX, hQ.out.2⟩
          obtain ⟨m, hm⟩ : ∃ m, m = (siA r st M j ++ siR r st M Y k).length := ⟨_, rfl⟩
          have hmb : m ≤ 20000 := by
            rw [hm, List.length_append]
            have h1 := siA_len r st M j
            have h2 := siR_len r st M Y k
            have h3 : j * (2 * M + 1) ≤ 101 * 101 := Nat.mul_le_mul (by omega) (by omega)
            omega
          have HS : Hid (siA r st M j ++ siR r st M Y (k + 1) = (siA r st M j ++ siR r st M Y k) ++ (if XX + YY ≤ RR then [⟨X, Y⟩] else [])) := by
            unfold Hid; rw [siR, HRR.out, HYY.out, hXX, hX, List.append_assoc]
          have hn1 : Hid (X + st = (((k + 1 : Nat) : Int) - M) * st) := by
            unfold Hid; rw [hX, show (((k + 1 : Nat) : Int) - M) = ((k : Int) - M) + 1 by omega, Int.add_mul, Int.one_mul]
          have hws : w.heap.size + 1 ≤ wr.heap.size := by have h1 := hQ.out.2.2.size; have h2 := HW0.out.2.2; omega
          have HW8 : Hid (W0.heap.size ≤ wr.heap.size) := hQ.out.2.2.size
          clear hb hQ hX hXX
          by_cases hc : XX + YY ≤ RR
          · rw [if_pos hc] at HS
            obtain ⟨va, vc, hvf⟩ := (OG.rg siC2_len HK.out.2.2.1).form
            rw [← hm] at hvf
            subst hvf
            have HOW : Hid (wr.ownsRow W0.heap.size 31 2 (.slice va m vc) m ((siA r st M j ++ siR r st M Y k).flatMap siC2)) := by
              have h3 := HK.out.2.2.1
              unfold OG at h3
              rw [← hm] at h3
              exact h3
            have HMm : Hid (m = (siA r st M j ++ siR r st M Y k).length) := hm
            clear hm
            go_wp2_with (at_builtin; refine wpList_append_own _ rfl _ _ 26 rfl W0.heap.size 31 i0 (.agg #[.int .i64 0, .int .i64 0]) 2 16 Try.underlying26 hi hz0 hz1 hz2 rfl (by decide) _ _ _ rfl (World.ownsRow.alloc HOW.out _) ⟨wr.heap.size, 0, none⟩ 1 1 [.int .i64 X, .int .i64 Y] rfl rfl (World.news_of_block (cs := #[.int .i64 X, .int .i64 Y]) (t := 31) (fr := (0, 0)) (heap_alloc_new wr _)) (by simp [Value.oneCell']) (by unfold maxLen; omega) (by omega) (by have h8 := HW8.out; simp; omega) ?_; intro v6 w6 hown6 hgrow6 _)
            have R6 : Hid (OG 31 2 siC2 w6 W0.heap.size v6 (siA r st M j ++ siR r st M Y (k + 1)) ∧ Below W0.heap.size W0 w6) := by
              refine ⟨by rw [HS.out]; exact st_snoc (by rw [← HMm.out]; exact hown6), ?_⟩
              exact (HK.out.2.2.2.alloc HW8.out _).grown hgrow6 (by have h8 := HW8.out; simp; omega) (fun q hq => (OG.lt HK.out.2.2.1 q hq).1)
            clear hown6 hgrow6 HOW HMm HS HK
            have hst5 : st ≤ 50 ∧ 1 ≤ st := ⟨H.out.2.2.2.2, H.out.2.2.2.1⟩
            have hnx : IntKind.i64.wrap (X + st) = X + st := by rw [IntKind.wrap_i64]; omega
            go_wp2
            go_roundw
            case rel => exact ⟨k + 1, _, _, by omega, rfl, rfl, hn1.out, R6.out⟩
            case measure => simp [intOf]; omega
          · rw [if_neg hc, List.append_nil] at HS
            clear hm
            have hst5 : st ≤ 50 ∧ 1 ≤ st := ⟨H.out.2.2.2.2, H.out.2.2.2.1⟩
            have hnx : IntKind.i64.wrap (X + st) = X + st := by rw [IntKind.wrap_i64]; omega
            go_wp2
            go_roundw
            case rel => exact ⟨k + 1, _, _, by omega, rfl, rfl, hn1.out, by rw [HS.out]; exact HK.out.2.2.1, HK.out.2.2.2⟩
            case measure => simp [intOf]; omega
        · have htk : ¬ X ≤ R := fun h => hltk (hb.2.2.1.1 h)
          have HE : Hid (OG 31 2 siC2 wr W0.heap.size v (siA r st M (j + 1)) ∧ Below W0.heap.size W0 wr) := by
            have h3 := hQ.out.2
            rw [show k = 2 * M + 1 by omega, HO.out.2.1] at h3
            exact h3
          have hn1 : Hid (Y + st = (((j + 1 : Nat) : Int) - M) * st) := by
            unfold Hid; rw [HO.out.2.1, show (((j + 1 : Nat) : Int) - M) = ((j : Int) - M) + 1 by omega, Int.add_mul, Int.one_mul]
          have hst5 : st ≤ 50 ∧ 1 ≤ st := ⟨H.out.2.2.2.2, H.out.2.2.2.1⟩
          have hnx : IntKind.i64.wrap (Y + st) = Y + st := by rw [IntKind.wrap_i64]; omega
          clear hb hQ
          go_wp2
          go_roundw
          case rel => exact ⟨j + 1, _, _, by omega, rfl, rfl, hn1.out, HE.out⟩
          case measure => simp [intOf]; omega
    · have ht : ¬ Y ≤ R := fun h => hlt (hb.2.2.1.1 h)
      have HE : Hid (OG 31 2 siC2 wr W0.heap.size v (siG r st) ∧ Below W0.heap.size W0 wr) := by
        have h3 := hQ.out.2
        rw [show j = 2 * M + 1 by omega, H.out.2.1] at h3
        exact h3
      clear hb hQ
      obtain ⟨m, hm⟩ : ∃ m, m = (siG r st).length := ⟨_, rfl⟩
      obtain ⟨va, vc, hvf⟩ := (OG.rg siC2_len HE.out.1).form
      rw [← hm] at hvf
      subst hvf
      have hres : wr.heap[w.heap.size]? = some (.cells #[.int .i64 0, .slice none 0 0] 28) := (HE.out.2.block _ (by have := HW0.out.2.2; omega)).trans HW0.out.2.1
      obtain ⟨q0, q1, f0, f1, ql⟩ := two_q hres
      have HBW : Hid (Below w.heap.size w wr) := HW0.out.1.trans (HE.out.2.mono HW0.out.1.size)
      by_cases h2 : (200 : Int) < (m : Int)
      · have hc : Hid (siC r st = 2 ∧ siL r st = []) := by
          have e : siC r st = 2 := by unfold siC; rw [if_pos ⟨H.out.2.2.1, H.out.2.2.2⟩, if_pos (by omega)]
          exact ⟨e, by unfold siL; rw [e, if_neg (by decide)]⟩
        clear hm hres
        go_wp2
        try simp only [Exit.inBlock, Exit.then]
        refine bodyPost_ret (by simp [results, Try.results11, go_sem, q0, q1, ql]; try rfl) rfl ⟨.slice none 0 0, by rw [hc.out.1], by rw [hc.out.2]; exact st_nil _ _, ?_⟩
        have hb := HBW.out
        (repeat' (first | (with_reducible exact Below.refl _ _) | (with_reducible assumption) | (with_reducible refine Below.setCell ?_ ?_ _) | (with_reducible refine Below.alloc ?_ ?_ _) | (with_reducible refine below_drewN ?_ _) | (with_reducible refine Below.drew ?_) | (with_reducible exact Nat.le_refl _) | omega | (simp; done) | (simp; omega)))
      · have hc : Hid (siC r st = 0 ∧ siL r st = siG r st) := by
          have e : siC r st = 0 := by unfold siC; rw [if_pos ⟨H.out.2.2.1, H.out.2.2.2⟩, if_neg (by omega)]
          exact ⟨e, by unfold siL; rw [e, if_pos rfl]⟩
        clear hm hres
        go_wp2
        try simp only [Exit.inBlock, Exit.then]
        refine bodyPost_ret (by simp [results, Try.results11, go_sem, q0, q1, ql]; try rfl) rfl ⟨.slice va m vc, by rw [hc.out.1], ?_, ?_⟩
        · rw [hc.out.2]
          have h9 := HE.out.1.low (A := w.heap.size) (by have := HW0.out.2.2; omega)
          refine ownsRow_keep h9 fun g hg => ?_
          have h10 := (OG.lt HE.out.1 g hg).1
          have h11 := HW0.out.2.2
          rw [heap_setCell_other _ _ _ _ (by simp; omega), heap_setCell_other _ _ _ _ (by simp; omega)]
        · have hb := HBW.out
          (repeat' (first | (with_reducible exact Below.refl _ _) | (with_reducible assumption) | (with_reducible refine Below.setCell ?_ ?_ _) | (with_reducible refine Below.alloc ?_ ?_ _) | (with_reducible refine below_drewN ?_ _) | (with_reducible refine Below.drew ?_) | (with_reducible exact Nat.le_refl _) | omega | (simp; done) | (simp; omega)))

end Go.Proofs.Ytgjdcdhdfhkfcaa
