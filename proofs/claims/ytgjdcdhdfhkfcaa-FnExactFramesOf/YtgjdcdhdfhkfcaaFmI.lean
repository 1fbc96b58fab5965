/- Proved here: FramesOf of the program: fmC, fmL. -/
import Derived.Test.YtgjdcdhdfhkfcaaFmO
import Derived.Test.YtgjdcdhdfhkfcaaFmN
import Derived.Test.YtgjdcdhdfhkfcaaFmQ
import Derived.Deep.DeepCutAuto
namespace Go.Proofs.Ytgjdcdhdfhkfcaa
open Go.RowKit
set_option linter.unusedVariables false
set_option linter.unusedSimpArgs false

set_option maxRecDepth 10000 in
set_option maxHeartbeats 12800000 in
theorem impl_frames {w : World} {g1 : Nat} {s : List Nat} (hn : s.length ≤ 1048576) (h : RFl w (.slice (some ⟨g1, 0, none⟩) s.length s.length) s) :
    Calls Try.prog 15 #[.slice (some ⟨g1, 0, none⟩) s.length s.length] w fun e w' => ∃ v, e = .returned (.agg #[.int .i64 (fmC s), v]) ∧ FmP w' w.heap.size v (fmL s) ∧ Below w.heap.size w w' := by
  obtain ⟨n, hnn⟩ : ∃ n, n = s.length := ⟨_, rfl⟩
  rw [← hnn] at hn h ⊢
  obtain ⟨i0, hi0, hz0, hz1, hz2⟩ := info_parts info_rowL
  by_cases h200 : (200 : Int) < (n : Int)
  · have HC : Hid (fmC s = 2 ∧ fmL s = []) := ⟨by rw [fmC, if_pos (by omega)], by rw [fmL, if_pos (by omega)]⟩
    clear h hnn
    go_enter Try.func15, Try.ntmps15
    go_wp2
    go_returns
    exact ⟨.slice none 0 0, by rw [HC.out.1], ⟨[], [], RoL.nil _ _, by rw [HC.out.2]; rfl⟩, by (repeat' (first | (with_reducible exact Below.refl _ _) | (with_reducible assumption) | (with_reducible refine Below.setCell ?_ ?_ _) | (with_reducible refine Below.alloc ?_ ?_ _) | (with_reducible refine below_drewN ?_ _) | (with_reducible refine Below.drew ?_) | (with_reducible exact Nat.le_refl _) | omega | (simp; done) | (simp; omega)))⟩
  obtain ⟨R, hR⟩ : ∃ R, R = fmN s := ⟨_, rfl⟩
  have H : Hid (RFl w (.slice (some ⟨g1, 0, none⟩) n n) s ∧ n = s.length ∧ fmC s = 0 ∧ fmL s = (List.range R).map (fmR s) ∧ R = (n + 7) / 8) := ⟨h, hnn, by rw [fmC, if_neg (by omega)], by rw [fmL, if_neg (by omega), fmV, hR], by rw [hR, fmN, hnn]⟩
  have hRb : R = (n + 7) / 8 := H.out.2.2.2.2
  have HRb : Hid (R = (n + 7) / 8) := hRb
  have hR25 : R ≤ 25 := by omega
  clear h hnn hR hRb
  obtain ⟨W0, hW0⟩ : ∃ W, W = w.alloc (.cells #[.int .i64 0, .slice none 0 0] 35) := ⟨_, rfl⟩
  have HW0 : Hid (Below w.heap.size w W0 ∧ W0.heap[w.heap.size]? = some (.cells #[.int .i64 0, .slice none 0 0] 35) ∧ W0.heap.size = w.heap.size + 1) := by
    rw [hW0]; exact ⟨by (repeat' (first | (with_reducible exact Below.refl _ _) | (with_reducible assumption) | (with_reducible refine Below.setCell ?_ ?_ _) | (with_reducible refine Below.alloc ?_ ?_ _) | (with_reducible refine below_drewN ?_ _) | (with_reducible refine Below.drew ?_) | (with_reducible exact Nat.le_refl _) | omega | (simp; done) | (simp; omega))), heap_alloc_new _ _, by simp⟩
  go_enter Try.func15, Try.ntmps15
  go_wp2
  rw [← hW0]
  clear hW0
  go_loopw [3, 4] (fun q i wr => ∃ (j : Nat) (oa : Option Addr) (oc f : Nat), j ≤ R ∧ q = .slice oa j oc ∧ i = .int .i64 f ∧ Hid (f = 8 * j ∧ ∃ vs L, RoL wr (w.heap.size + 1) (.slice oa j oc) L vs ∧ L.map (List.map fv) = (List.range j).map (fmR s) ∧ Below (w.heap.size + 1) W0 wr)) (fun _ i _ => (n + 8) - (intOf i).toNat)
  case atStart => exact ⟨0, _, _, 0, Nat.zero_le _, rfl, rfl, rfl, [], [], RoL.nil _ _, rfl, by have := HW0.out.2.2; rw [← this]; exact Below.refl _ _⟩
  case round =>
    obtain ⟨j, oa, oc, f, hj, rfl, rfl, hR⟩ := hrel
    have hfj := hR.out.1
    have hRb := HRb.out
    obtain ⟨vs, L, hro, hlv, hbl⟩ := hR.out.2
    have hLj : L.length = j := by have := congrArg List.length hlv; simpa using this
    have HR : Hid (RoL wr (w.heap.size + 1) (.slice oa j oc) L vs ∧ L.map (List.map fv) = (List.range j).map (fmR s) ∧ Below (w.heap.size + 1) W0 wr ∧ L.length = j ∧ f = 8 * j) := ⟨hro, hlv, hbl, hLj, hfj⟩
    have hszr : w.heap.size + 1 ≤ wr.heap.size := by have h1 := hbl.size; have h2 := HW0.out.2.2; omega
    have HBW : Hid (Below w.heap.size w wr) := HW0.out.1.trans (hbl.mono (by omega))
    clear hro hlv hbl hLj hR
    by_cases hlt : f < n
    · have hjR : j < R := by omega
      obtain ⟨m, hm⟩ : ∃ m, m = min 8 (n - f) := ⟨_, rfl⟩
      have HSUB : Hid (RFl wr (.slice (some ⟨g1, f, none⟩) m (n - f)) ((s.drop (8 * j)).take m) ∧ m = min 8 (s.length - 8 * j) ∧ 8 * j < s.length) := by
        have h9 := RFl.part (H.out.1.below HBW.out) (a := f) (m := m) (by omega) (n - f)
        rw [Nat.zero_add] at h9
        refine ⟨by rw [← hfj]; exact h9, by rw [hm, H.out.2.1, hfj], by rw [← H.out.2.1]; omega⟩
      have hlen : ((s.drop (8 * j)).take m).length ≤ 8 := by rw [List.length_take]; omega
      obtain ⟨T, hT⟩ : ∃ T, T = f + m := ⟨_, rfl⟩
      have hmin : (if (n : Int) < (f : Int) + 8 then (n : Int) else (f : Int) + 8) = (T : Int) := by split <;> omega
      have e9 : IntKind.i64.wrap ((f : Int) + 8) = (f : Int) + 8 := by rw [IntKind.wrap_i64]; omega
      have t0 : (0 : Int) ≤ (f : Int) := by omega
      have t1 : (f : Int) ≤ (T : Int) := by omega
      have t2 : (T : Int) ≤ (n : Int) := by omega
      have t3 : (f : Int) < (n : Int) := by omega
      have t4 : T - f = m := by omega
      have t5 : (T : Int) - (f : Int) = (m : Int) := by omega
      have t6 : ¬ n - f = 0 := by omega
      have t7 : f ≤ T := by omega
      have t8 : T ≤ n := by omega
      have t9 : f ≤ n := by omega
      have t10 : ¬ n ≤ f := by omega
      have t11 : ¬ f = n := by omega
      have t12 : ¬ n = f := by omega
      have HLE : Hid (((s.drop (8 * j)).take m).length ≤ 8) := hlen
      clear hm hT hlen hfj hRb
      go_wp2_with (fail)
      refine (impl_frame HLE.out HSUB.out.1).mono ?_
      rintro e w3 ⟨rfl, hb3⟩
      go_wp2_with (fail)
      refine (impl_numbers _ _).mono ?_
      rintro e w4 ⟨gu, rfl, hou, hb4⟩
      have hbb : Below wr.heap.size wr w4 := hb3.trans (hb4.mono hb3.size)
      have HU : Hid (OFl w4 wr.heap.size (.slice (some ⟨gu, 0, none⟩) 8 8) ((List.range 8).map fun i => (frV ((s.drop (8 * j)).take m) i).toNat) ∧ ((List.range 8).map fun i => (frV ((s.drop (8 * j)).take m) i).toNat).map fv = fmR s j ∧ Below wr.heap.size wr w4) := ⟨OG.low hou hb3.size, fm_row HSUB.out.2.1 HSUB.out.2.2, hbb⟩
      have HRR : Hid (w4.ownsRow (w.heap.size + 1) 32 1 (.slice oa j oc) j vs) := by
        have h9 := (HR.out.1.below hbb).o
        rw [HR.out.2.2.2.1] at h9
        exact h9
      have hsz4 : wr.heap.size ≤ w4.heap.size := hbb.size
      clear hou hb3 hb4 hbb HSUB HLE hmin t0 t1 t2 t4 t5 t6 t7 t8 t9 t10 t11 t12
      go_wp2_with (at_builtin; refine wpList_append_own _ rfl (.tmp 21) (.tmp 28) 33 rfl (w.heap.size + 1) 32 i0 (.slice none 0 0) 1 24 Try.underlying33 hi0 hz0 hz1 hz2 rfl (by decide) (.slice oa j oc) j vs rfl (World.ownsRow.alloc HRR.out _) ⟨w4.heap.size, 0, none⟩ 1 1 [.slice (some ⟨gu, 0, none⟩) 8 8] rfl rfl (World.news_of_block (cs := #[.slice (some ⟨gu, 0, none⟩) 8 8]) (t := 32) (fr := (0, 0)) (heap_alloc_new w4 _)) (by simp [Value.oneCell']) (by unfold maxLen; omega) (by omega) (by simp; omega) ?_; intro v6 w6 hown6 hgrow6 _)
      have R6 : Hid (∃ oa' oc', v6 = .slice oa' (j + 1) oc' ∧ ∃ vs L, RoL w6 (w.heap.size + 1) (.slice oa' (j + 1) oc') L vs ∧ L.map (List.map fv) = (List.range (j + 1)).map (fmR s) ∧ Below (w.heap.size + 1) W0 w6) := by
        have hP := HR.out.1.push HU.out.2.2 hszr HU.out.1 (by rw [HR.out.2.2.2.1]; exact hown6) hgrow6
        obtain ⟨oa', oc', e2⟩ := hP.form
        rw [List.length_append, HR.out.2.2.2.1] at e2
        simp only [List.length_cons, List.length_nil, Nat.zero_add] at e2
        rw [e2] at hP
        refine ⟨oa', oc', e2, _, _, hP, ?_, ?_⟩
        · rw [List.map_append, HR.out.2.1, fm_next]; congr 1; simp only [List.map_cons, List.map_nil]; rw [HU.out.2.1]
        · have hb5 : Below (w.heap.size + 1) W0 (w4.alloc (.cells #[.slice (some ⟨gu, 0, none⟩) 8 8] 32)) := (HR.out.2.2.1.trans (HU.out.2.2.mono hszr)).alloc (by have := HU.out.2.2.size; have := HW0.out.2.2; omega) _
          exact hb5.grown hgrow6 (by simp; omega) (fun k hk => (rowBlk HRR.out hk).1)
      clear hown6 hgrow6
      obtain ⟨oa', oc', rfl, R2⟩ := R6.out
      have R3 : Hid _ := R2
      clear R6 R2
      have e8 : IntKind.i64.wrap ((f : Int) + 8) = (f : Int) + 8 := by rw [IntKind.wrap_i64]; omega
      go_wp2
      go_roundw
      case rel => exact ⟨j + 1, oa', oc', f + 8, by omega, rfl, by go_num, by have := HR.out.2.2.2.2; omega, R3.out⟩
      case measure => simp [intOf]; omega
    · have HE : Hid (j = R) := by unfold Hid; omega
      have hres : wr.heap[w.heap.size]? = some (.cells #[.int .i64 0, .slice none 0 0] 35) := (HR.out.2.2.1.block _ (by omega)).trans HW0.out.2.1
      obtain ⟨q0, q1, f0, f1, ql⟩ := two_f hres
      have bk : ¬ (f : Int) < (n : Int) := by omega
      clear hres hfj hRb
      go_wp2
      try simp only [Exit.inBlock, Exit.then]
      refine bodyPost_ret (by simp [results, Try.results15, go_sem, q0, q1, ql]; try rfl) rfl ⟨.slice oa j oc, by rw [H.out.2.2.1], ⟨vs, L, ?_, by rw [HR.out.2.1, H.out.2.2.2.1, HE.out]⟩, ?_⟩
      · refine RoL.low (HR.out.1.kept (fun g hg => ?_) (fun i hi g hg => ?_)) (by omega)
        · have h10 := (rowBlk HR.out.1.o hg).1
          rw [heap_setCell_other _ _ _ _ (by simp; omega), heap_setCell_other _ _ _ _ (by simp; omega)]
        · have h10 := (rowBlk (HR.out.1.bx i hi) hg).1
          rw [heap_setCell_other _ _ _ _ (by simp; omega), heap_setCell_other _ _ _ _ (by simp; omega)]
      · have hb := HBW.out
        (repeat' (first | (with_reducible exact Below.refl _ _) | (with_reducible assumption) | (with_reducible refine Below.setCell ?_ ?_ _) | (with_reducible refine Below.alloc ?_ ?_ _) | (with_reducible refine below_drewN ?_ _) | (with_reducible refine Below.drew ?_) | (with_reducible exact Nat.le_refl _) | omega | (simp; done) | (simp; omega)))

end Go.Proofs.Ytgjdcdhdfhkfcaa
