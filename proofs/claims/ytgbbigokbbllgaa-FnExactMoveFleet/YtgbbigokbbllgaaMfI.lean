/- Proved here: MoveFleet of the program. -/
import Derived.Test.YtgbbigokbbllgaaMfM
import Derived.Test.YtgbbigokbbllgaaStI
import Derived.Test.YtgbbigokbbllgaaCpF
import Derived.Test.YtgbbigokbbllgaaFzI
namespace Go.Proofs.Ytgbbigokbbllgaa
open Go.RowKit
set_option linter.unusedVariables false
set_option linter.unusedSimpArgs false

set_option maxRecDepth 10000 in
set_option maxHeartbeats 6400000 in
theorem impl_mf (Z : Int) {w : World} {ga oa gb ob c d : Nat} {s t : List Int} (hn : s.length ≤ 1048576 ∧ t.length ≤ 1048576) (hc : s.length ≤ c) (h : RdL w (.slice (some ⟨ga, oa, none⟩) s.length c) (.slice (some ⟨gb, ob, none⟩) t.length d) s t) :
    Calls Try.prog 32 #[.agg #[.int .i64 Z, .slice (some ⟨ga, oa, none⟩) s.length c, .slice (some ⟨gb, ob, none⟩) t.length d]] w fun e w' => ∃ (vq : Value × Value × Value) (_ : Unit), e = .returned (.agg #[.int .i64 (flF Z s t), .int .i64 (mfZ Z s t), vq.1, vq.2.1, vq.2.2]) ∧ OwF w' w.heap.size vq.1 vq.2.1 vq.2.2 (mfA Z s t) (mfT Z s t) (mfM Z s t) ∧ Below w.heap.size w w' := by
  obtain ⟨n, hnn⟩ : ∃ n, n = s.length := ⟨_, rfl⟩
  obtain ⟨m, hmm⟩ : ∃ n, n = t.length := ⟨_, rfl⟩
  obtain ⟨x, hx⟩ : ∃ D, D = flF Z s t := ⟨_, rfl⟩
  obtain ⟨ZN, hZN⟩ : ∃ D, D = mfZ Z s t := ⟨_, rfl⟩
  have HF : Hid (∀ W, Below w.heap.size w W → Calls Try.prog 23 #[.agg #[.int .i64 Z, .slice (some ⟨ga, oa, none⟩) n c, .slice (some ⟨gb, ob, none⟩) m d]] W fun e w' => e = .returned (.int .i64 x) ∧ Below W.heap.size W w') := fun W hb => by
    rw [hx, hnn, hmm]; exact impl_ff Z hn hc (h.below hb)
  have HCP : Hid (∀ W, Below w.heap.size w W → Calls Try.prog 54 #[.agg #[.int .i64 Z, .slice (some ⟨ga, oa, none⟩) n c, .slice (some ⟨gb, ob, none⟩) m d]] W fun e w' => ∃ v1 v2, e = .returned (.agg #[.int .i64 Z, v1, v2]) ∧ OwL w' W.heap.size v1 v2 s t ∧ Below W.heap.size W w') := fun W hb => by
    rw [hnn, hmm]; exact impl_cop Z hn (h.below hb)
  have H : Hid ((x ≠ 0 → ZN = 0 ∧ mfA Z s t = [] ∧ mfT Z s t = [] ∧ mfM Z s t = []) ∧ (x = 0 → FlOk Z s t ∧ ZN = Z ∧ mfA Z s t = mvA Z s t ∧ mfT Z s t = t ∧ mfM Z s t = mvM Z s t n) ∧ n = s.length ∧ m = t.length) := by
    refine ⟨fun e => ?_, fun e => ⟨flF_ok (hx.symm.trans e), ?_⟩, hnn, hmm⟩
    · rw [hx] at e; rw [hZN]; unfold mfZ mfA mfT mfM; rw [if_neg e, if_neg e, if_neg e, if_neg e]; exact ⟨rfl, rfl, rfl, rfl⟩
    · rw [hx] at e; rw [hZN, hnn]; unfold mfZ mfA mfT mfM; rw [if_pos e, if_pos e, if_pos e, if_pos e]; exact ⟨rfl, rfl, rfl, rfl⟩
  rw [← hx, ← hZN, ← hnn, ← hmm]
  have HS : Hid (S2 w (.cells #[.int .i64 Z, .slice (some ⟨ga, oa, none⟩) n c, .slice (some ⟨gb, ob, none⟩) m d] 45) (.cells #[.int .i64 0, .int .i64 0, .slice none 0 0, .slice none 0 0, .slice none 0 0] 56) ((w.alloc (.cells #[.int .i64 Z, .slice (some ⟨ga, oa, none⟩) n c, .slice (some ⟨gb, ob, none⟩) m d] 45)).alloc (.cells #[.int .i64 0, .int .i64 0, .slice none 0 0, .slice none 0 0, .slice none 0 0] 56))) := S2.new _ _ _
  clear h hnn hmm hx hn hc hZN
  go_enter Try.func32, Try.ntmps32
  go_wp2_with (fail)
  obtain ⟨U, hU⟩ : ∃ X9, X9 = (w.alloc (.cells #[.int .i64 Z, .slice (some ⟨ga, oa, none⟩) n c, .slice (some ⟨gb, ob, none⟩) m d] 45)).alloc (.cells #[.int .i64 0, .int .i64 0, .slice none 0 0, .slice none 0 0, .slice none 0 0] 56) := ⟨_, rfl⟩
  rw [← hU] at HS ⊢
  clear hU
  refine (HF.out _ HS.out.bl).mono ?_
  rintro e w1 ⟨rfl, hb1⟩
  have HT : Hid (S2 w (.cells #[.int .i64 Z, .slice (some ⟨ga, oa, none⟩) n c, .slice (some ⟨gb, ob, none⟩) m d] 45) (.cells #[.int .i64 0, .int .i64 0, .slice none 0 0, .slice none 0 0, .slice none 0 0] 56) w1) := HS.out.next hb1
  clear hb1 HF HS
  obtain ⟨p0, p1, p2, pf, pl⟩ := tw_three HT.out.b0
  clear pf
  by_cases hx0 : x = 0
  case neg =>
    have HV := H.out.1 hx0
    have HV2 : Hid _ := HV
    have hA1 : (x != 0) = true := by simpa using hx0
    obtain ⟨q0, q1, q2, q3, q4, qf, ql⟩ := five_F HT.out.b1
    have qf0 := qf 0
    have qf1 := qf 1
    have qf2 := qf 2
    have qf3 := qf 3
    have qf4 := qf 4
    clear qf HV HCP
    go_wp2
    try simp only [Exit.inBlock, Exit.then]
    refine bodyPost_ret (by simp [results, Try.results32, go_sem, q0, q1, q2, q3, q4]; try rfl) rfl ⟨(.slice none 0 0, .slice none 0 0, .slice none 0 0), (), by rw [HV2.out.1], by rw [HV2.out.2.1, HV2.out.2.2.1, HV2.out.2.2.2]; exact owf_none _ _, ?_⟩
    have hB := HT.out.bl
    (repeat' (first | (with_reducible exact Below.refl _ _) | (with_reducible assumption) | (with_reducible refine Below.setCell ?_ ?_ _) | (with_reducible refine Below.alloc ?_ ?_ _) | (with_reducible refine below_drewN ?_ _) | (with_reducible refine Below.drew ?_) | (with_reducible exact Nat.le_refl _) | omega | (simp; done) | (simp; omega)))
  subst hx0
  have ho : FlOk Z s t := (H.out.2.1 (by first | rfl | trivial)).1
  obtain ⟨N, hN⟩ : ∃ N : Nat, Z = (N : Int) := ⟨Z.toNat, by have := ho.z; omega⟩
  subst hN
  have HV : Hid (FlOk (N : Int) s t ∧ ZN = (N : Int) ∧ mfA (N : Int) s t = mvA (N : Int) s t ∧ mfT (N : Int) s t = t ∧ mfM (N : Int) s t = mvM (N : Int) s t n) := H.out.2.1 (by first | rfl | trivial)
  have hl1 : w.heap.size + 1 < w1.heap.size := ltOf HT.out.b1
  have hmn : m = n := by rw [H.out.2.2.2, H.out.2.2.1]; exact ho.l
  subst hmn
  have HNN : Hid (m = s.length) := H.out.2.2.1
  clear ho H
  go_wp2_with (fail)
  refine (HCP.out _ HT.out.bl).mono ?_
  rintro e w2 ⟨v1, v2, rfl, hO2, hb2⟩
  obtain ⟨a1, c1, hv1⟩ := hO2.form1
  obtain ⟨b1, d1, hv2⟩ := hO2.form2
  rw [← HNN.out] at hv1
  rw [HV.out.1.l, ← HNN.out] at hv2
  subst hv1 hv2
  obtain ⟨V, hVd⟩ : ∃ X9, X9 = w2.alloc (.cells #[.int .i64 (N : Int), .slice a1 m c1, .slice b1 m d1] 45) := ⟨_, rfl⟩
  have hbV : Below w2.heap.size w2 V := by rw [hVd]; (repeat' (first | (with_reducible exact Below.refl _ _) | (with_reducible assumption) | (with_reducible refine Below.setCell ?_ ?_ _) | (with_reducible refine Below.alloc ?_ ?_ _) | (with_reducible refine below_drewN ?_ _) | (with_reducible refine Below.drew ?_) | (with_reducible exact Nat.le_refl _) | omega | (simp; done) | (simp; omega)))
  have kV : V.heap[w2.heap.size]? = some (.cells #[.int .i64 (N : Int), .slice a1 m c1, .slice b1 m d1] 45) := by rw [hVd]; exact heap_alloc_new _ _
  have hsV : V.heap.size = w2.heap.size + 1 := by rw [hVd]; simp
  have hOV : OwL V w1.heap.size (.slice a1 m c1) (.slice b1 m d1) s t := hO2.keep fun q hq => hbV.block q (hO2.blk hq).2
  have HST : Hid (Calls Try.prog 55 #[.pointer (some ⟨w2.heap.size, 0, none⟩)] V fun e w' => ∃ v, e = .returned v ∧ IS w' V.heap.size v (mvM (N : Int) s t m) ∧ OwL w' w1.heap.size (.slice a1 m c1) (.slice b1 m d1) (mvA (N : Int) s t) t ∧ ChV (.slice a1 m c1) V w') := impl_st N w2.heap.size kV HNN.out HV.out.1 hOV (fun e => by have := (hO2.blk e).2; omega)
  have HW : Hid (S2 w (.cells #[.int .i64 (N : Int), .slice (some ⟨ga, oa, none⟩) m c, .slice (some ⟨gb, ob, none⟩) m d] 45) (.cells #[.int .i64 0, .int .i64 0, .slice none 0 0, .slice none 0 0, .slice none 0 0] 56) V ∧ V.heap[w2.heap.size]? = some (.cells #[.int .i64 (N : Int), .slice a1 m c1, .slice b1 m d1] 45) ∧ (∀ g, BkL (.slice a1 m c1) (.slice b1 m d1) g → w1.heap.size ≤ g ∧ g < w2.heap.size) ∧ V.heap.size = w2.heap.size + 1 ∧ w1.heap.size ≤ w2.heap.size) := ⟨(HT.out.next hb2).next hbV, kV, fun g hg => hO2.blk hg, hsV, hb2.size⟩
  clear hO2 hb2 hbV kV hOV HCP HT p0 p1 p2 pl hsV
  go_wp2_with (fail)
  rw [← hVd]
  clear hVd
  refine HST.out.mono ?_
  rintro e w4 ⟨v3, rfl, hI3, hO4, hch⟩
  obtain ⟨ma, mc, hv3⟩ := hI3.form
  obtain ⟨ml, hml⟩ : ∃ l, l = (mvM (N : Int) s t m).length := ⟨_, rfl⟩
  rw [← hml] at hv3
  subst hv3
  have hne : ∀ q, q < w1.heap.size ∨ q = w2.heap.size → (Value.slice a1 m c1).ownBlock ≠ some q := fun q hq e => by have := HW.out.2.2.1 q (Or.inl e); omega
  have hw12 := HW.out.2.2.2.2
  have hVs := HW.out.2.2.2.1
  have r1 : w4.heap[w.heap.size + 1]? = some (.cells #[.int .i64 0, .int .i64 0, .slice none 0 0, .slice none 0 0, .slice none 0 0] 56) := (hch.block _ (by omega) (hne _ (Or.inl hl1))).trans HW.out.1.b1
  have rk : w4.heap[w2.heap.size]? = some (.cells #[.int .i64 (N : Int), .slice a1 m c1, .slice b1 m d1] 45) := (hch.block _ (by omega) (hne _ (Or.inr rfl))).trans HW.out.2.1
  obtain ⟨q0, q1, q2, q3, q4, qf, ql⟩ := five_F r1
  have qf0 := qf 0
  have qf1 := qf 1
  have qf2 := qf 2
  have qf3 := qf 3
  have qf4 := qf 4
  obtain ⟨p0, p1, p2, pf, pl⟩ := tw_three rk
  have HE : Hid (OwF (((((w4.setCell ⟨w.heap.size + 1, 0, none⟩ (.int .i64 0)).setCell ⟨w.heap.size + 1, 1, none⟩ (.int .i64 (N : Int))).setCell ⟨w.heap.size + 1, 2, none⟩ (.slice a1 m c1)).setCell ⟨w.heap.size + 1, 3, none⟩ (.slice b1 m d1)).setCell ⟨w.heap.size + 1, 4, none⟩ (.slice ma ml mc)) w.heap.size (.slice a1 m c1) (.slice b1 m d1) (.slice ma ml mc) (mvA (N : Int) s t) t (mvM (N : Int) s t m) ∧ Below w.heap.size w (((((w4.setCell ⟨w.heap.size + 1, 0, none⟩ (.int .i64 0)).setCell ⟨w.heap.size + 1, 1, none⟩ (.int .i64 (N : Int))).setCell ⟨w.heap.size + 1, 2, none⟩ (.slice a1 m c1)).setCell ⟨w.heap.size + 1, 3, none⟩ (.slice b1 m d1)).setCell ⟨w.heap.size + 1, 4, none⟩ (.slice ma ml mc))) := by
    have hoff : ∀ q, q ≠ w.heap.size + 1 → (((((w4.setCell ⟨w.heap.size + 1, 0, none⟩ (.int .i64 0)).setCell ⟨w.heap.size + 1, 1, none⟩ (.int .i64 (N : Int))).setCell ⟨w.heap.size + 1, 2, none⟩ (.slice a1 m c1)).setCell ⟨w.heap.size + 1, 3, none⟩ (.slice b1 m d1)).setCell ⟨w.heap.size + 1, 4, none⟩ (.slice ma ml mc)).heap[q]? = w4.heap[q]? := fun q hq => by
      rw [heap_setCell_other _ _ _ _ (by simpa using hq), heap_setCell_other _ _ _ _ (by simpa using hq), heap_setCell_other _ _ _ _ (by simpa using hq), heap_setCell_other _ _ _ _ (by simpa using hq), heap_setCell_other _ _ _ _ (by simpa using hq)]
    have hB4 : Below w.heap.size w w4 := HW.out.1.bl.trans (hch.below HW.out.1.bl.size (fun g hg => by have := HW.out.2.2.1 g (Or.inl hg); omega))
    refine ⟨⟨(hO4.keep fun q hq => hoff q (by have := HW.out.2.2.1 q hq; omega)).low (by omega), (hI3.kept fun q hq => hoff q (by have := (IS.lt hI3 q hq).1; omega)).low (by omega), fun g hg hb => ?_⟩, ?_⟩
    · have h3 := (IS.lt hI3 g hg).1
      have h4 := HW.out.2.2.1 g hb
      omega
    · (repeat' (first | (with_reducible exact Below.refl _ _) | (with_reducible assumption) | (with_reducible refine Below.setCell ?_ ?_ _) | (with_reducible refine Below.alloc ?_ ?_ _) | (with_reducible refine below_drewN ?_ _) | (with_reducible refine Below.drew ?_) | (with_reducible exact Nat.le_refl _) | omega | (simp; done) | (simp; omega)))
  clear qf pf r1 rk hne hI3 hO4 hch HST HW hml
  go_wp2
  try simp only [Exit.inBlock, Exit.then]
  refine bodyPost_ret (by simp [results, Try.results32, go_sem, q0, q1, q2, q3, q4]; try rfl) rfl ⟨(.slice a1 m c1, .slice b1 m d1, .slice ma ml mc), (), by rw [HV.out.2.1], by rw [HV.out.2.2.1, HV.out.2.2.2.1, HV.out.2.2.2.2]; exact HE.out.1, HE.out.2⟩

end Go.Proofs.Ytgbbigokbbllgaa
