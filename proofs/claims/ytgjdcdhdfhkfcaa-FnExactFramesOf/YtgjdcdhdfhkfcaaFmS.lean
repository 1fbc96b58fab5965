/- Proved here: FramesOf of the model: fmC, fmL. -/
import Derived.Test.YtgjdcdhdfhkfcaaFfS
import Derived.Test.YtgjdcdhdfhkfcaaFmQ
import Derived.Deep.DeepCutAuto
namespace Go.Proofs.Ytgjdcdhdfhkfcaa
open Go.RowKit
set_option linter.unusedVariables false
set_option linter.unusedSimpArgs false

set_option maxRecDepth 10000 in
set_option maxHeartbeats 12800000 in
theorem spec_frames {w : World} {g1 : Nat} {s : List Nat} (hn : s.length ≤ 1048576) (h : RFl w (.slice (some ⟨g1, 0, none⟩) s.length s.length) s) :
    Calls Try.prog 13 #[.slice (some ⟨g1, 0, none⟩) s.length s.length] w fun e w' => ∃ v, e = .returned (.agg #[.int .i64 (fmC s), v]) ∧ FmP w' w.heap.size v (fmL s) ∧ Below w.heap.size w w' := by
  obtain ⟨n, hnn⟩ : ∃ n, n = s.length := ⟨_, rfl⟩
  rw [← hnn] at hn h ⊢
  obtain ⟨i0, hi0, hz0, hz1, hz2⟩ := info_parts info_rowL
  by_cases h200 : (200 : Int) < (n : Int)
  · have HC : Hid (fmC s = 2 ∧ fmL s = []) := ⟨by rw [fmC, if_pos (by omega)], by rw [fmL, if_pos (by omega)]⟩
    clear h hnn
    go_enter Try.func13, Try.ntmps13
    go_wp2
    go_returns
    exact ⟨.slice none 0 0, by rw [HC.out.1], ⟨[], [], RoL.nil _ _, by rw [HC.out.2]; rfl⟩, by (repeat' (first | (with_reducible exact Below.refl _ _) | (with_reducible assumption) | (with_reducible refine Below.setCell ?_ ?_ _) | (with_reducible refine Below.alloc ?_ ?_ _) | (with_reducible refine below_drewN ?_ _) | (with_reducible refine Below.drew ?_) | (with_reducible exact Nat.le_refl _) | omega | (simp; done) | (simp; omega)))⟩
  obtain ⟨R, hR⟩ : ∃ R, R = fmN s := ⟨_, rfl⟩
  have H : Hid (RFl w (.slice (some ⟨g1, 0, none⟩) n n) s ∧ n = s.length ∧ fmC s = 0 ∧ fmL s = (List.range R).map (fmR s) ∧ R = (n + 7) / 8) := ⟨h, hnn, by rw [fmC, if_neg (by omega)], by rw [fmL, if_neg (by omega), fmV, hR], by rw [hR, fmN, hnn]⟩
  have hRb : R = (n + 7) / 8 := H.out.2.2.2.2
  have HRb : Hid (R = (n + 7) / 8) := hRb
  have hR25 : R ≤ 25 := by omega
  clear h hnn hR hRb
  obtain ⟨W0, hW0⟩ : ∃ W, W = w.alloc (.cells #[.int .i64 0, .slice none 0 0] 35) := ⟨_, rfl⟩
  have HW0 : Hid (Below w.heap.size w W0 ∧ W0.heap[w.heap.size]? = some (.cells #[.int .i64 0, .slice none 0 0] 35) ∧ W0.heap.size = w.heap.size + 1) := by
    rw [hW0]; exact ⟨by (repeat' (first | (with_reducible exact Below.refl _ _) | (with_reducible assumption) | (with_reducible refine Below.setCell ?_ ?_ _) | (with_reducible refine Below.alloc ?_ ?_ _) | (with_reducible refine below_drewN ?_ _) | (with_reducible refine Below.drew ?_) | (with_reducible exact Nat.le_refl _) | omega | (simp; done) | (simp; omega))), heap_alloc_new _ _, by simp⟩
  go_enter Try.func13, Try.ntmps13
  go_wp2
  rw [← hW0]
  clear hW0
  go_loopw [3, 4] (fun q i wr => ∃ (j : Nat) (oa : Option Addr) (oc f : Nat), j ≤ R ∧ q = .slice oa j oc ∧ i = .int .i64 f ∧ Hid (f = 8 * j ∧ ∃ vs L, RoL wr (w.heap.size + 1) (.slice oa j oc) L vs ∧ L.map (List.map fv) = (List.range j).map (fmR s) ∧ Below (w.heap.size + 1) W0 wr)) (fun _ i _ => (n + 8) - (intOf i).toNat)
  case atStart => exact ⟨0, _, _, 0, Nat.zero_le _, rfl, rfl, rfl, [], [], by have h9 := RoL.lit0 W0 (w.heap.size + 1) (by have := HW0.out.2.2; omega); rw [HW0.out.2.2] at h9; exact h9, rfl, by have := HW0.out.2.2; (repeat' (first | (with_reducible exact Below.refl _ _) | (with_reducible assumption) | (with_reducible refine Below.setCell ?_ ?_ _) | (with_reducible refine Below.alloc ?_ ?_ _) | (with_reducible refine below_drewN ?_ _) | (with_reducible refine Below.drew ?_) | (with_reducible exact Nat.le_refl _) | omega | (simp; done) | (simp; omega)))⟩
  case round =>
    obtain ⟨j, oa, oc, f, hj, rfl, rfl, hR⟩ := hrel
    have hfj := hR.out.1
    have hRb := HRb.out
    obtain ⟨vs, L, hro, hlv, hbl⟩ := hR.out.2
    have hLj : L.length = j := by have := congrArg List.length hlv; simpa using this
    have HR : Hid (RoL wr (w.heap.size + 1) (.slice oa j oc) L vs ∧ L.map (List.map fv) = (List.range j).map (fmR s) ∧ Below (w.heap.size + 1) W0 wr ∧ L.length = j ∧ f = 8 * j) := ⟨hro, hlv, hbl, hLj, hfj⟩
    have hszr : w.heap.size + 1 ≤ wr.heap.size := by have h1 := hbl.size; have h2 := HW0.out.2.2; omega
    have HBW : Hid (Below w.heap.size w wr) := HW0.out.1.trans (hbl.mono (by omega))
    clear hro hlv hbl hLj hR
    by_cases hlt : f < n
    · have hjR : j < R := by omega
      have t3 : (f : Int) < (n : Int) := by omega
      have HF8 : Hid (f = 8 * j) := hfj
      obtain ⟨i1, hi1, hy0, hy1, hy2⟩ := info_parts info_fl
      clear hfj hRb
      go_wp2
      obtain ⟨w5, hw5⟩ : ∃ x, x = wr := ⟨_, rfl⟩
      rw [← hw5]
      rw [← hw5] at HR HBW hszr
      clear hw5
      have e88 : IntKind.i64.wrap ((f : Int) + 8) = (f : Int) + 8 := by rw [IntKind.wrap_i64]; omega
      go_loopw [5, 6] (fun q i wr => ∃ (t k : Nat) (va : Option Addr) (vc : Nat), t ≤ 8 ∧ q = .slice va t vc ∧ i = .int .i64 k ∧ Hid (k = f + t ∧ ∃ qs : List Nat, OFl wr w5.heap.size (.slice va t vc) qs ∧ qs.map fv = (List.range t).map (fun i => if 8 * j + i < s.length then fv (s.getD (8 * j + i) 0) else none) ∧ Below w5.heap.size w5 wr)) (fun _ i _ => (f + 8) - (intOf i).toNat)
      case atStart => exact ⟨0, f, _, _, Nat.zero_le _, rfl, rfl, rfl, [], World.ownsRow_lit w5 #[] 0 (Nat.le_refl _) (by decide) (by simp), rfl, by (repeat' (first | (with_reducible exact Below.refl _ _) | (with_reducible assumption) | (with_reducible refine Below.setCell ?_ ?_ _) | (with_reducible refine Below.alloc ?_ ?_ _) | (with_reducible refine below_drewN ?_ _) | (with_reducible refine Below.drew ?_) | (with_reducible exact Nat.le_refl _) | omega | (simp; done) | (simp; omega)))⟩
      case round =>
        obtain ⟨t, k, va, vc, ht, rfl, rfl, hQ0⟩ := hrel
        have hkt := hQ0.out.1
        obtain ⟨qs, hq1, hq2, hq3⟩ := hQ0.out.2
        have hql : qs.length = t := by have := congrArg List.length hq2; simpa using this
        have HQ : Hid (OFl wr w5.heap.size (.slice va t vc) qs ∧ qs.map fv = (List.range t).map (fun i => if 8 * j + i < s.length then fv (s.getD (8 * j + i) 0) else none) ∧ Below w5.heap.size w5 wr ∧ qs.length = t ∧ k = f + t) := ⟨hq1, hq2, hq3, hql, hkt⟩
        have hsz5 : w5.heap.size ≤ wr.heap.size := hq3.size
        clear hq1 hq2 hq3 hql hQ0
        by_cases hlt8 : t < 8
        · have b8 : (k : Int) < (f : Int) + 8 := by omega
          have HOW : Hid (wr.ownsRow w5.heap.size 55 1 (.slice va t vc) t (qs.flatMap flC)) := by
            have h3 := HQ.out.1
            unfold OFl OG at h3
            rw [HQ.out.2.2.2.1] at h3
            exact h3
          have b0 : (0 : Int) ≤ (k : Int) := by omega
          by_cases hkn : (k : Int) < (n : Int)
          · obtain ⟨g, o, z, ha, hg, hz, c0⟩ := rf_at (H.out.1.below (HBW.out.trans (HQ.out.2.2.1.mono (by omega)))) (show k < n by omega)
            injection ha with ha
            injection ha with ha1 ha2
            subst ha1 ha2
            have HX : Hid ((if 8 * j + t < s.length then fv (s.getD (8 * j + t) 0) else none) = fv z) := by
              unfold Hid
              rw [if_pos (by rw [← H.out.2.1, ← HF8.out]; omega), show 8 * j + t = k by rw [← HF8.out]; omega, fl_get hz]
            rw [Nat.zero_add] at c0
            clear hz hkt
            go_wp2_with (at_builtin; refine wpList_append_own _ rfl (.tmp 30) (.tmp 35) 32 rfl w5.heap.size 55 i1 (.float .f64 0) 1 8 Try.underlying32 hi1 hy0 hy1 hy2 rfl (by decide) _ _ _ rfl (World.ownsRow.alloc HOW.out _) ⟨wr.heap.size, 0, none⟩ 1 1 [.float .f64 z] rfl rfl (World.news_of_block (cs := #[.float .f64 z]) (t := 55) (fr := (0, 0)) (heap_alloc_new wr _)) (by simp [Value.oneCell']) (by unfold maxLen; omega) (by omega) (by simp; omega) ?_; intro v6 w6 hown6 hgrow6 _)
            have R6 : Hid (∃ va' vc', v6 = .slice va' (t + 1) vc' ∧ ∃ q' : List Nat, OFl w6 w5.heap.size (.slice va' (t + 1) vc') q' ∧ q'.map fv = (List.range (t + 1)).map (fun i => if 8 * j + i < s.length then fv (s.getD (8 * j + i) 0) else none) ∧ Below w5.heap.size w5 w6) := by
              have hP : OFl w6 w5.heap.size v6 (qs ++ [z]) := OFl.snoc (by rw [HQ.out.2.2.2.1]; exact hown6)
              obtain ⟨va', vc', e2⟩ := hP.rg.form
              rw [List.length_append, HQ.out.2.2.2.1] at e2
              simp only [List.length_cons, List.length_nil, Nat.zero_add] at e2
              rw [e2] at hP
              refine ⟨va', vc', e2, _, hP, ?_, ?_⟩
              · rw [List.map_append, HQ.out.2.1, List.range_succ, List.map_append]; congr 1; simp only [List.map_cons, List.map_nil]; rw [HX.out]
              · exact (HQ.out.2.2.1.alloc hsz5 _).grown hgrow6 (by simp; omega) (fun k hk => (OG.lt HQ.out.1 k hk).1)
            clear hown6 hgrow6 HOW HX
            obtain ⟨va', vc', rfl, R2⟩ := R6.out
            have R3 : Hid _ := R2
            clear R6 R2
            have ek : IntKind.i64.wrap ((k : Int) + 1) = (k : Int) + 1 := by rw [IntKind.wrap_i64]; omega
            go_wp2
            go_roundw
            case rel => exact ⟨t + 1, k + 1, va', vc', by omega, rfl, by go_num, by have := HQ.out.2.2.2.2; omega, R3.out⟩
            case measure => simp [intOf]; omega
          · have HNF : Hid (∀ W, Calls Try.prog 44 #[.int .u64 9221120237041090560] W fun e w' => ∃ y n, e = .returned (.float .f64 y) ∧ fv y = none ∧ y < 18446744073709551616 ∧ w' = W.drewN n) := fun W => by
              have h9 := spec_from 9221120237041090560 (by decide) W
              rw [show fv 9221120237041090560 = none by decide] at h9
              exact h9
            have hnk : Hid (¬ 8 * j + t < s.length) := by unfold Hid; rw [← H.out.2.1, ← HF8.out]; omega
            clear hkt
            go_wp2_with (fail)
            refine (HNF.out _).mono ?_
            rintro e w7 ⟨y, nd, rfl, hy, hyb, hw7⟩
            have HX : Hid ((if 8 * j + t < s.length then fv (s.getD (8 * j + t) 0) else none) = fv y) := by unfold Hid; rw [if_neg hnk.out, hy]
            have HOW2 : Hid (w7.ownsRow w5.heap.size 55 1 (.slice va t vc) t (qs.flatMap flC)) := by unfold Hid; rw [hw7]; exact ownsRow_keep HOW.out fun _ _ => rfl
            have HB7 : Hid (Below w5.heap.size w5 w7) := by unfold Hid; rw [hw7]; exact below_drewN HQ.out.2.2.1 nd
            have hsz7 : w5.heap.size ≤ w7.heap.size := HB7.out.size
            clear hw7 hy hyb HOW HNF
            have HOW := HOW2
            clear HOW2
            go_wp2_with (at_builtin; refine wpList_append_own _ rfl (.tmp 37) (.tmp 39) 32 rfl w5.heap.size 55 i1 (.float .f64 0) 1 8 Try.underlying32 hi1 hy0 hy1 hy2 rfl (by decide) _ _ _ rfl (World.ownsRow.alloc HOW.out _) ⟨w7.heap.size, 0, none⟩ 1 1 [.float .f64 y] rfl rfl (World.news_of_block (cs := #[.float .f64 y]) (t := 55) (fr := (0, 0)) (heap_alloc_new w7 _)) (by simp [Value.oneCell']) (by unfold maxLen; omega) (by omega) (by simp; omega) ?_; intro v6 w6 hown6 hgrow6 _)
            have R6 : Hid (∃ va' vc', v6 = .slice va' (t + 1) vc' ∧ ∃ q' : List Nat, OFl w6 w5.heap.size (.slice va' (t + 1) vc') q' ∧ q'.map fv = (List.range (t + 1)).map (fun i => if 8 * j + i < s.length then fv (s.getD (8 * j + i) 0) else none) ∧ Below w5.heap.size w5 w6) := by
              have hP : OFl w6 w5.heap.size v6 (qs ++ [y]) := OFl.snoc (by rw [HQ.out.2.2.2.1]; exact hown6)
              obtain ⟨va', vc', e2⟩ := hP.rg.form
              rw [List.length_append, HQ.out.2.2.2.1] at e2
              simp only [List.length_cons, List.length_nil, Nat.zero_add] at e2
              rw [e2] at hP
              refine ⟨va', vc', e2, _, hP, ?_, ?_⟩
              · rw [List.map_append, HQ.out.2.1, List.range_succ, List.map_append]; congr 1; simp only [List.map_cons, List.map_nil]; rw [HX.out]
              · exact (HB7.out.alloc hsz7 _).grown hgrow6 (by simp; omega) (fun k hk => (OG.lt HQ.out.1 k hk).1)
            clear hown6 hgrow6 HOW HX
            obtain ⟨va', vc', rfl, R2⟩ := R6.out
            have R3 : Hid _ := R2
            clear R6 R2
            have ek : IntKind.i64.wrap ((k : Int) + 1) = (k : Int) + 1 := by rw [IntKind.wrap_i64]; omega
            go_wp2
            go_roundw
            case rel => exact ⟨t + 1, k + 1, va', vc', by omega, rfl, by go_num, by have := HQ.out.2.2.2.2; omega, R3.out⟩
            case measure => simp [intOf]; omega
        · have b8 : ¬ (k : Int) < (f : Int) + 8 := by omega
          obtain rfl : t = 8 := by omega
          have HU : Hid (OFl wr w5.heap.size (.slice va 8 vc) qs ∧ qs.map fv = fmR s j ∧ Below w5.heap.size w5 wr) := ⟨HQ.out.1, HQ.out.2.1, HQ.out.2.2.1⟩
          have HRR : Hid (wr.ownsRow (w.heap.size + 1) 32 1 (.slice oa j oc) j vs) := by
            have h9 := (HR.out.1.below HQ.out.2.2.1).o
            rw [HR.out.2.2.2.1] at h9
            exact h9
          clear hkt HQ
          go_wp2_with (at_builtin; refine wpList_append_own _ rfl (.tmp 41) (.tmp 43) 33 rfl (w.heap.size + 1) 32 i0 (.slice none 0 0) 1 24 Try.underlying33 hi0 hz0 hz1 hz2 rfl (by decide) (.slice oa j oc) j vs rfl (World.ownsRow.alloc HRR.out _) ⟨wr.heap.size, 0, none⟩ 1 1 [.slice va 8 vc] rfl rfl (World.news_of_block (cs := #[.slice va 8 vc]) (t := 32) (fr := (0, 0)) (heap_alloc_new wr _)) (by simp [Value.oneCell']) (by unfold maxLen; omega) (by omega) (by simp; omega) ?_; intro v6 w6 hown6 hgrow6 _)
          have R6 : Hid (∃ oa' oc', v6 = .slice oa' (j + 1) oc' ∧ ∃ vs L, RoL w6 (w.heap.size + 1) (.slice oa' (j + 1) oc') L vs ∧ L.map (List.map fv) = (List.range (j + 1)).map (fmR s) ∧ Below (w.heap.size + 1) W0 w6) := by
            have hP := HR.out.1.push HU.out.2.2 hszr HU.out.1 (by rw [HR.out.2.2.2.1]; exact hown6) hgrow6
            obtain ⟨oa', oc', e2⟩ := hP.form
            rw [List.length_append, HR.out.2.2.2.1] at e2
            simp only [List.length_cons, List.length_nil, Nat.zero_add] at e2
            rw [e2] at hP
            refine ⟨oa', oc', e2, _, _, hP, ?_, ?_⟩
            · rw [List.map_append, HR.out.2.1, fm_next]; congr 1; simp only [List.map_cons, List.map_nil]; rw [HU.out.2.1]
            · have hb5 : Below (w.heap.size + 1) W0 (wr.alloc (.cells #[.slice va 8 vc] 32)) := (HR.out.2.2.1.trans (HU.out.2.2.mono hszr)).alloc (by have := HU.out.2.2.size; have := HW0.out.2.2; omega) _
              exact hb5.grown hgrow6 (by simp; omega) (fun k hk => (rowBlk HRR.out hk).1)
          clear hown6 hgrow6
          obtain ⟨oa', oc', rfl, R2⟩ := R6.out
          have R3 : Hid _ := R2
          clear R6 R2
          have e8 : IntKind.i64.wrap ((f : Int) + 8) = (f : Int) + 8 := by rw [IntKind.wrap_i64]; omega
          go_wp2
          go_roundw
          case rel => exact ⟨j + 1, oa', oc', f + 8, by omega, rfl, by go_num, by have := HR.out.2.2.2.2; omega, R3.out⟩
          case measure => simp [intOf]; omega
    · have HE : Hid (j = R) := by unfold Hid; omega
      have hres : wr.heap[w.heap.size]? = some (.cells #[.int .i64 0, .slice none 0 0] 35) := (HR.out.2.2.1.block _ (by omega)).trans HW0.out.2.1
      obtain ⟨q0, q1, f0, f1, ql⟩ := two_f hres
      have bk : ¬ (f : Int) < (n : Int) := by omega
      clear hres hfj hRb
      go_wp2
      try simp only [Exit.inBlock, Exit.then]
      refine bodyPost_ret (by simp [results, Try.results13, go_sem, q0, q1, ql]; try rfl) rfl ⟨.slice oa j oc, by rw [H.out.2.2.1], ⟨vs, L, ?_, by rw [HR.out.2.1, H.out.2.2.2.1, HE.out]⟩, ?_⟩
      · refine RoL.low (HR.out.1.kept (fun g hg => ?_) (fun i hi g hg => ?_)) (by omega)
        · have h10 := (rowBlk HR.out.1.o hg).1
          rw [heap_setCell_other _ _ _ _ (by simp; omega), heap_setCell_other _ _ _ _ (by simp; omega)]
        · have h10 := (rowBlk (HR.out.1.bx i hi) hg).1
          rw [heap_setCell_other _ _ _ _ (by simp; omega), heap_setCell_other _ _ _ _ (by simp; omega)]
      · have hb := HBW.out
        (repeat' (first | (with_reducible exact Below.refl _ _) | (with_reducible assumption) | (with_reducible refine Below.setCell ?_ ?_ _) | (with_reducible refine Below.alloc ?_ ?_ _) | (with_reducible refine below_drewN ?_ _) | (with_reducible refine Below.drew ?_) | (with_reducible exact Nat.le_refl _) | omega | (simp; done) | (simp; omega)))

end Go.Proofs.Ytgjdcdhdfhkfcaa
