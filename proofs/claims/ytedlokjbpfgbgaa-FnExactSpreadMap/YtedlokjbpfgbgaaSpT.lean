/- Proved here: SpreadMap of the model. -/
import Derived.Test.YtedlokjbpfgbgaaSpW
import Derived.Test.YtedlokjbpfgbgaaSpS
namespace Go.Proofs.Ytedlokjbpfgbgaa
open Go.RowKit
set_option linter.unusedVariables false
set_option linter.unusedSimpArgs false

set_option maxRecDepth 10000 in
set_option maxHeartbeats 8000000 in
theorem spec_spm (l : List Sh) (x : Wt) {w : World} {v : Value} (hn : l.length ≤ 1048576) (h : RG 5 shC w v l) :
    Calls Try.prog 7 #[v, .agg #[.int .i64 x.f.x0, .int .i64 x.f.y0, .int .i64 x.f.x1, .int .i64 x.f.y1, .int .i64 x.o, .int .i64 x.s, .int .i64 x.r]] w fun e w' => ∃ vr vs, e = .returned (.agg #[.int .i64 (wsF l x), vr]) ∧ RI w' w.heap.size vr (spR l x) vs ∧ Below w.heap.size w w' := by
  obtain ⟨a, c, rfl⟩ := h.form
  obtain ⟨n, hnn⟩ : ∃ n, n = l.length := ⟨_, rfl⟩
  obtain ⟨C, hC⟩ : ∃ C, C = wsF l x := ⟨_, rfl⟩
  rw [← hnn] at h ⊢
  have H : Hid (RG 5 shC w (.slice a n c) l ∧ C = wsF l x) := ⟨h, hC⟩
  have HSF : Hid (∀ W : World, Below w.heap.size w W → Calls Try.prog 24 #[.slice a n c, .agg #[.int .i64 x.f.x0, .int .i64 x.f.y0, .int .i64 x.f.x1, .int .i64 x.f.y1, .int .i64 x.o, .int .i64 x.s, .int .i64 x.r]] W fun e w' => e = .returned (.int .i64 C) ∧ Below W.heap.size W w') := fun W hW => by rw [hC]; exact spec_wsF l x hn (h.below hW)
  rw [← hC]
  clear h hnn hC hn
  go_enter Try.func7, Try.ntmps7
  go_wp2_with (fail)
  refine (HSF.out _ (by (repeat' (first | (with_reducible exact Below.refl _ _) | (with_reducible assumption) | (with_reducible refine Below.setCell ?_ ?_ _) | (with_reducible refine Below.alloc ?_ ?_ _) | (with_reducible refine below_drewN ?_ _) | (with_reducible refine Below.drew ?_) | (with_reducible exact Nat.le_refl _) | omega | (simp; done) | (simp; omega))))).mono ?_
  rintro e w1 ⟨rfl, hb1⟩
  have HK1 : Hid (FW w w1 x) := (FW.start w x).next hb1
  clear hb1 HSF
  by_cases q0 : C = 0
  case neg =>
    have HE : Hid (spR l x = []) := by unfold Hid spR; rw [if_neg (by rw [← H.out.2]; exact q0)]
    obtain ⟨r0, r1, f0, f1, hlt2⟩ := two_fw HK1.out.r
    go_wp2
    refine bodyPost_ret (by simp [results, Try.results7, go_sem, r0, r1, hlt2]; rfl) rfl ⟨.slice none 0 0, [], ?_, ?_, ?_⟩
    · rfl
    · rw [HE.out]; exact RI.nil _ _
    · have hb := HK1.out.bl
      (repeat' (first | (with_reducible exact Below.refl _ _) | (with_reducible assumption) | (with_reducible refine Below.setCell ?_ ?_ _) | (with_reducible refine Below.alloc ?_ ?_ _) | (with_reducible refine below_drewN ?_ _) | (with_reducible refine Below.drew ?_) | (with_reducible exact Nat.le_refl _) | omega | (simp; done) | (simp; omega)))
  have HS0 : Hid (wsF l x = 0 ∧ spR l x = spL l x.f x.o x.s x.r.toNat) := by
    have e : wsF l x = 0 := by rw [← H.out.2]; exact q0
    exact ⟨e, by unfold spR; rw [if_pos e]⟩
  subst q0
  obtain ⟨p0, p1, p2, p3, p4, p5, p6, pf, pl⟩ := wt_seven HK1.out.b
  clear pf
  have HCL : Hid (Calls Try.prog 25 #[.slice a n c, .agg #[.int .i64 x.f.x0, .int .i64 x.f.y0, .int .i64 x.f.x1, .int .i64 x.f.y1, .int .i64 x.o, .int .i64 x.s, .int .i64 x.r]] w1 fun e w' => ∃ v' vs, e = .returned v' ∧ RI w' w1.heap.size v' (spL l x.f x.o x.s x.r.toNat) vs ∧ Below w1.heap.size w1 w') := by
    obtain ⟨g1, g2, g3, g4, g5, g6⟩ := spR_good HS0.out.1
    have h9 := spec_sp l x.f x.o x.s x.r.toNat g1.1 g1.2 g2 g3 g4 g5 (H.out.1.below HK1.out.bl)
    rw [← g6] at h9
    exact h9
  go_wp2_with (fail)
  refine HCL.out.mono ?_
  rintro e w3 ⟨v3, vs, rfl, hr3, hb3⟩
  obtain ⟨SL, hSL⟩ : ∃ SL, SL = spL l x.f x.o x.s x.r.toNat := ⟨_, rfl⟩
  rw [← hSL] at hr3
  have HK3 : Hid (FW w w3 x ∧ RI w3 w1.heap.size v3 SL vs ∧ spR l x = SL) := ⟨HK1.out.next hb3, hr3, by rw [hSL]; exact HS0.out.2⟩
  have hsz2 := HK1.out.sz
  obtain ⟨ra, rc, hrf⟩ := hr3.form
  obtain ⟨m, hm⟩ : ∃ m, m = SL.length := ⟨_, rfl⟩
  rw [← hm] at hrf
  subst hrf
  obtain ⟨r0, r1, f0, f1, hlt2⟩ := two_fw HK3.out.1.r
  clear hb3 hr3 HCL HK1 hm hSL p0 p1 p2 p3 p4 p5 p6 pl
  go_wp2
  refine bodyPost_ret (by simp [results, Try.results7, go_sem, r0, r1, hlt2]; rfl) rfl ⟨.slice ra m rc, vs, ?_, ?_, ?_⟩
  · rfl
  · rw [HK3.out.2.2]
    refine RI.low (RI.kept HK3.out.2.1 (fun g hg => ?_) (fun i hi g hg => ?_)) (by omega)
    · have h1 := (rowBlk HK3.out.2.1.o hg).1
      rw [heap_setCell_other _ _ _ _ (by simp; omega), heap_setCell_other _ _ _ _ (by simp; omega)]
    · have h1 := (rowBlk (HK3.out.2.1.bx i hi) hg).1
      rw [heap_setCell_other _ _ _ _ (by simp; omega), heap_setCell_other _ _ _ _ (by simp; omega)]
  · have hb := HK3.out.1.bl
    (repeat' (first | (with_reducible exact Below.refl _ _) | (with_reducible assumption) | (with_reducible refine Below.setCell ?_ ?_ _) | (with_reducible refine Below.alloc ?_ ?_ _) | (with_reducible refine below_drewN ?_ _) | (with_reducible refine Below.drew ?_) | (with_reducible exact Nat.le_refl _) | omega | (simp; done) | (simp; omega)))

end Go.Proofs.Ytedlokjbpfgbgaa
