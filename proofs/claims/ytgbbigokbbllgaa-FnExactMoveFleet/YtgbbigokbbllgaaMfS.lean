/- Proved here: MoveFleet of the model. -/
import Derived.Test.YtgbbigokbbllgaaLp20
import Derived.Test.YtgbbigokbbllgaaFzS
namespace Go.Proofs.Ytgbbigokbbllgaa
open Go.RowKit
set_option linter.unusedVariables false
set_option linter.unusedSimpArgs false

set_option maxRecDepth 10000 in
set_option maxHeartbeats 6400000 in
theorem spec_mf (Z : Int) {w : World} {ga oa gb ob c d : Nat} {s t : List Int} (hn : s.length ≤ 1048576 ∧ t.length ≤ 1048576) (hc : s.length ≤ c) (h : RdL w (.slice (some ⟨ga, oa, none⟩) s.length c) (.slice (some ⟨gb, ob, none⟩) t.length d) s t) :
    Calls Try.prog 31 #[.agg #[.int .i64 Z, .slice (some ⟨ga, oa, none⟩) s.length c, .slice (some ⟨gb, ob, none⟩) t.length d]] w fun e w' => ∃ (vq : Value × Value × Value) (_ : Unit), e = .returned (.agg #[.int .i64 (flF Z s t), .int .i64 (mfZ Z s t), vq.1, vq.2.1, vq.2.2]) ∧ OwF w' w.heap.size vq.1 vq.2.1 vq.2.2 (mfA Z s t) (mfT Z s t) (mfM Z s t) ∧ Below w.heap.size w w' := by
  obtain ⟨n, hnn⟩ : ∃ n, n = s.length := ⟨_, rfl⟩
  obtain ⟨m, hmm⟩ : ∃ n, n = t.length := ⟨_, rfl⟩
  obtain ⟨x, hx⟩ : ∃ D, D = flF Z s t := ⟨_, rfl⟩
  obtain ⟨ZN, hZN⟩ : ∃ D, D = mfZ Z s t := ⟨_, rfl⟩
  have HF : Hid (∀ W, Below w.heap.size w W → Calls Try.prog 21 #[.agg #[.int .i64 Z, .slice (some ⟨ga, oa, none⟩) n c, .slice (some ⟨gb, ob, none⟩) m d]] W fun e w' => e = .returned (.int .i64 x) ∧ Below W.heap.size W w') := fun W hb => by
    rw [hx, hnn, hmm]; exact spec_ff Z hn (h.below hb)
  have H : Hid ((x ≠ 0 → ZN = 0 ∧ mfA Z s t = [] ∧ mfT Z s t = [] ∧ mfM Z s t = []) ∧ (x = 0 → FlOk Z s t ∧ ZN = Z ∧ mfA Z s t = mvA Z s t ∧ mfT Z s t = t ∧ mfM Z s t = mvM Z s t n) ∧ n = s.length ∧ m = t.length) := by
    refine ⟨fun e => ?_, fun e => ⟨flF_ok (hx.symm.trans e), ?_⟩, hnn, hmm⟩
    · rw [hx] at e; rw [hZN]; unfold mfZ mfA mfT mfM; rw [if_neg e, if_neg e, if_neg e, if_neg e]; exact ⟨rfl, rfl, rfl, rfl⟩
    · rw [hx] at e; rw [hZN, hnn]; unfold mfZ mfA mfT mfM; rw [if_pos e, if_pos e, if_pos e, if_pos e]; exact ⟨rfl, rfl, rfl, rfl⟩
  rw [← hx, ← hZN, ← hnn, ← hmm]
  have HS : Hid (S2 w (.cells #[.int .i64 Z, .slice (some ⟨ga, oa, none⟩) n c, .slice (some ⟨gb, ob, none⟩) m d] 45) (.cells #[.int .i64 0, .int .i64 0, .slice none 0 0, .slice none 0 0, .slice none 0 0] 56) ((w.alloc (.cells #[.int .i64 Z, .slice (some ⟨ga, oa, none⟩) n c, .slice (some ⟨gb, ob, none⟩) m d] 45)).alloc (.cells #[.int .i64 0, .int .i64 0, .slice none 0 0, .slice none 0 0, .slice none 0 0] 56))) := S2.new _ _ _
  have HRD : Hid (RdL w (.slice (some ⟨ga, oa, none⟩) n c) (.slice (some ⟨gb, ob, none⟩) m d) s t) := by unfold Hid; rw [hnn, hmm]; exact h
  clear h hnn hmm hx hn hc hZN
  go_enter Try.func31, Try.ntmps31
  go_wp2_with (fail)
  obtain ⟨U, hU⟩ : ∃ X9, X9 = (w.alloc (.cells #[.int .i64 Z, .slice (some ⟨ga, oa, none⟩) n c, .slice (some ⟨gb, ob, none⟩) m d] 45)).alloc (.cells #[.int .i64 0, .int .i64 0, .slice none 0 0, .slice none 0 0, .slice none 0 0] 56) := ⟨_, rfl⟩
  rw [← hU] at HS ⊢
  clear hU
  refine (HF.out _ HS.out.bl).mono ?_
  rintro e w1 ⟨rfl, hb1⟩
  have HT : Hid (S2 w (.cells #[.int .i64 Z, .slice (some ⟨ga, oa, none⟩) n c, .slice (some ⟨gb, ob, none⟩) m d] 45) (.cells #[.int .i64 0, .int .i64 0, .slice none 0 0, .slice none 0 0, .slice none 0 0] 56) w1) := HS.out.next hb1
  clear hb1 HF HS
  obtain ⟨p0, p1, p2, pf, pl⟩ := tw_three HT.out.b0
  clear pf
  by_cases hx0 : x = 0
  case neg =>
    have HV := H.out.1 hx0
    have HV2 : Hid _ := HV
    have hA1 : (x != 0) = true := by simpa using hx0
    obtain ⟨q0, q1, q2, q3, q4, qf, ql⟩ := five_F HT.out.b1
    have qf0 := qf 0
    have qf1 := qf 1
    have qf2 := qf 2
    have qf3 := qf 3
    have qf4 := qf 4
    clear qf HV
    go_wp2
    try simp only [Exit.inBlock, Exit.then]
    refine bodyPost_ret (by simp [results, Try.results31, go_sem, q0, q1, q2, q3, q4]; try rfl) rfl ⟨(.slice none 0 0, .slice none 0 0, .slice none 0 0), (), by rw [HV2.out.1], by rw [HV2.out.2.1, HV2.out.2.2.1, HV2.out.2.2.2]; exact owf_none _ _, ?_⟩
    have hB := HT.out.bl
    (repeat' (first | (with_reducible exact Below.refl _ _) | (with_reducible assumption) | (with_reducible refine Below.setCell ?_ ?_ _) | (with_reducible refine Below.alloc ?_ ?_ _) | (with_reducible refine below_drewN ?_ _) | (with_reducible refine Below.drew ?_) | (with_reducible exact Nat.le_refl _) | omega | (simp; done) | (simp; omega)))
  subst hx0
  have ho : FlOk Z s t := (H.out.2.1 (by first | rfl | trivial)).1
  obtain ⟨N, hN⟩ : ∃ N : Nat, Z = (N : Int) := ⟨Z.toNat, by have := ho.z; omega⟩
  subst hN
  have HV : Hid (FlOk (N : Int) s t ∧ ZN = (N : Int) ∧ mfA (N : Int) s t = mvA (N : Int) s t ∧ mfT (N : Int) s t = t ∧ mfM (N : Int) s t = mvM (N : Int) s t n) := H.out.2.1 (by first | rfl | trivial)
  have hl1 : w.heap.size + 1 < w1.heap.size := ltOf HT.out.b1
  have hmn : m = n := by rw [H.out.2.2.2, H.out.2.2.1]; exact ho.l
  subst hmn
  have HNN : Hid (m = s.length) := H.out.2.2.1
  have HST : Hid (Calls Try.prog 53 #[.agg #[.int .i64 (N : Int), .slice (some ⟨ga, oa, none⟩) m c, .slice (some ⟨gb, ob, none⟩) m d]] w1 fun e w' => ∃ (g1 c1 g2 c2 : Nat) (vm : Value), e = .returned (.agg #[.int .i64 0, .int .i64 (N : Int), .slice (some ⟨g1, 0, none⟩) m c1, .slice (some ⟨g2, 0, none⟩) m c2, vm]) ∧ OwF w' w1.heap.size (.slice (some ⟨g1, 0, none⟩) m c1) (.slice (some ⟨g2, 0, none⟩) m c2) vm (mvA (N : Int) s t) t (mvM (N : Int) s t m) ∧ Below w1.heap.size w1 w') := spec_stp N HNN.out HV.out.1 (HRD.out.below HT.out.bl)
  clear ho H
  go_wp2_with (fail)
  refine HST.out.mono ?_
  rintro e w2 ⟨g1, c1, g2, c2, vm, rfl, hO2, hb2⟩
  obtain ⟨ma, mc, hv3⟩ := hO2.2.1.form
  obtain ⟨ml, hml⟩ : ∃ l, l = (mvM (N : Int) s t m).length := ⟨_, rfl⟩
  rw [← hml] at hv3
  subst hv3
  have r1 : w2.heap[w.heap.size + 1]? = some (.cells #[.int .i64 0, .int .i64 0, .slice none 0 0, .slice none 0 0, .slice none 0 0] 56) := (hb2.block _ hl1).trans HT.out.b1
  obtain ⟨q0, q1, q2, q3, q4, qf, ql⟩ := five_F r1
  have qf0 := qf 0
  have qf1 := qf 1
  have qf2 := qf 2
  have qf3 := qf 3
  have qf4 := qf 4
  have HE : Hid (OwF (((((w2.setCell ⟨w.heap.size + 1, 0, none⟩ (.int .i64 0)).setCell ⟨w.heap.size + 1, 1, none⟩ (.int .i64 (N : Int))).setCell ⟨w.heap.size + 1, 2, none⟩ (.slice (some ⟨g1, 0, none⟩) m c1)).setCell ⟨w.heap.size + 1, 3, none⟩ (.slice (some ⟨g2, 0, none⟩) m c2)).setCell ⟨w.heap.size + 1, 4, none⟩ (.slice ma ml mc)) w.heap.size (.slice (some ⟨g1, 0, none⟩) m c1) (.slice (some ⟨g2, 0, none⟩) m c2) (.slice ma ml mc) (mvA (N : Int) s t) t (mvM (N : Int) s t m) ∧ Below w.heap.size w (((((w2.setCell ⟨w.heap.size + 1, 0, none⟩ (.int .i64 0)).setCell ⟨w.heap.size + 1, 1, none⟩ (.int .i64 (N : Int))).setCell ⟨w.heap.size + 1, 2, none⟩ (.slice (some ⟨g1, 0, none⟩) m c1)).setCell ⟨w.heap.size + 1, 3, none⟩ (.slice (some ⟨g2, 0, none⟩) m c2)).setCell ⟨w.heap.size + 1, 4, none⟩ (.slice ma ml mc))) := by
    have hoff : ∀ q, w1.heap.size ≤ q → (((((w2.setCell ⟨w.heap.size + 1, 0, none⟩ (.int .i64 0)).setCell ⟨w.heap.size + 1, 1, none⟩ (.int .i64 (N : Int))).setCell ⟨w.heap.size + 1, 2, none⟩ (.slice (some ⟨g1, 0, none⟩) m c1)).setCell ⟨w.heap.size + 1, 3, none⟩ (.slice (some ⟨g2, 0, none⟩) m c2)).setCell ⟨w.heap.size + 1, 4, none⟩ (.slice ma ml mc)).heap[q]? = w2.heap[q]? := fun q hq => by
      rw [heap_setCell_other _ _ _ _ (by simp; omega), heap_setCell_other _ _ _ _ (by simp; omega), heap_setCell_other _ _ _ _ (by simp; omega), heap_setCell_other _ _ _ _ (by simp; omega), heap_setCell_other _ _ _ _ (by simp; omega)]
    have hB4 : Below w.heap.size w w2 := HT.out.bl.trans (hb2.mono (by omega))
    refine ⟨(hO2.keep fun q hq => hoff q (hO2.blk hq).1).low (by omega), ?_⟩
    (repeat' (first | (with_reducible exact Below.refl _ _) | (with_reducible assumption) | (with_reducible refine Below.setCell ?_ ?_ _) | (with_reducible refine Below.alloc ?_ ?_ _) | (with_reducible refine below_drewN ?_ _) | (with_reducible refine Below.drew ?_) | (with_reducible exact Nat.le_refl _) | omega | (simp; done) | (simp; omega)))
  clear qf r1 hO2 hb2 HST HT hml p0 p1 p2 pl
  go_wp2
  try simp only [Exit.inBlock, Exit.then]
  refine bodyPost_ret (by simp [results, Try.results31, go_sem, q0, q1, q2, q3, q4]; try rfl) rfl ⟨(.slice (some ⟨g1, 0, none⟩) m c1, .slice (some ⟨g2, 0, none⟩) m c2, .slice ma ml mc), (), by rw [HV.out.2.1], by rw [HV.out.2.2.1, HV.out.2.2.2.1, HV.out.2.2.2.2]; exact HE.out.1, HE.out.2⟩

end Go.Proofs.Ytgbbigokbbllgaa
