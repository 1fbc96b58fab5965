/- Proved here: UrgesOf of the model. -/
import Derived.Test.YtgbbigokbbllgaaUoM
import Derived.Test.YtgbbigokbbllgaaGzS
import Derived.Test.YtgbbigokbbllgaaFzS
namespace Go.Proofs.Ytgbbigokbbllgaa
open Go.RowKit
set_option linter.unusedVariables false
set_option linter.unusedSimpArgs false

set_option maxRecDepth 10000 in
set_option maxHeartbeats 3200000 in
theorem spec_uo (Z : Int) {w : World} {a b : Option Addr} {c d : Nat} {s t : List Int} (hn : s.length ≤ 1048576 ∧ t.length ≤ 1048576) (hc : s.length ≤ c) (h : RdL w (.slice a s.length c) (.slice b t.length d) s t) :
    Calls Try.prog 25 #[.agg #[.int .i64 Z, .slice a s.length c, .slice b t.length d]] w fun e w' => ∃ v, e = .returned (.agg #[.int .i64 (flF Z s t), v]) ∧ IS w' w.heap.size v (uoL Z s t) ∧ Below w.heap.size w w' := by
  obtain ⟨n, hnn⟩ : ∃ n, n = s.length := ⟨_, rfl⟩
  obtain ⟨m, hmm⟩ : ∃ n, n = t.length := ⟨_, rfl⟩
  obtain ⟨x, hx⟩ : ∃ D, D = flF Z s t := ⟨_, rfl⟩
  have HF : Hid (∀ W, Below w.heap.size w W → Calls Try.prog 21 #[.agg #[.int .i64 Z, .slice a n c, .slice b m d]] W fun e w' => e = .returned (.int .i64 x) ∧ Below W.heap.size W w') := fun W hb => by
    rw [hx, hnn, hmm]; exact spec_ff Z hn (h.below hb)
  have HU : Hid (x = 0 → ∀ W, Below w.heap.size w W → Calls Try.prog 49 #[.agg #[.int .i64 Z, .slice a n c, .slice b m d]] W fun e w' => ∃ v, e = .returned v ∧ IS w' W.heap.size v (urL Z s t) ∧ Below W.heap.size W w') := fun e W hb => by
    have ho := flF_ok (hx.symm.trans e)
    have hl := ho.l
    rw [hmm, hl, hnn]
    rw [hl] at h
    exact spec_ur Z ho (h.below hb)
  have H : Hid ((x = 0 → uoL Z s t = urL Z s t) ∧ (x ≠ 0 → uoL Z s t = [])) := ⟨fun e => by unfold uoL; rw [if_pos (hx.symm.trans e)], fun e => by unfold uoL; rw [if_neg (by rw [← hx]; exact e)]⟩
  rw [← hx, ← hnn, ← hmm]
  have HS : Hid (S2 w (.cells #[.int .i64 Z, .slice a n c, .slice b m d] 45) (.cells #[.int .i64 0, .slice none 0 0] 50) ((w.alloc (.cells #[.int .i64 Z, .slice a n c, .slice b m d] 45)).alloc (.cells #[.int .i64 0, .slice none 0 0] 50))) := S2.new _ _ _
  clear h hnn hmm hx hn hc
  go_enter Try.func25, Try.ntmps25
  go_wp2_with (fail)
  obtain ⟨U, hU⟩ : ∃ U, U = (w.alloc (.cells #[.int .i64 Z, .slice a n c, .slice b m d] 45)).alloc (.cells #[.int .i64 0, .slice none 0 0] 50) := ⟨_, rfl⟩
  rw [← hU] at HS ⊢
  clear hU
  refine (HF.out _ HS.out.bl).mono ?_
  rintro e w1 ⟨rfl, hb1⟩
  have HT : Hid (S2 w (.cells #[.int .i64 Z, .slice a n c, .slice b m d] 45) (.cells #[.int .i64 0, .slice none 0 0] 50) w1) := HS.out.next hb1
  clear hb1 HF HS
  obtain ⟨p0, p1, p2, pf, pl⟩ := tw_three HT.out.b0
  obtain ⟨q0, q1, qf, ql⟩ := tw_two HT.out.b1
  have qf0 := qf 0
  have qf1 := qf 1
  clear pf qf
  by_cases hx0 : x = 0
  case neg =>
    have HV : Hid (uoL Z s t = []) := H.out.2 hx0
    have hA1 : (x != 0) = true := by simpa using hx0
    go_wp2
    try simp only [Exit.inBlock, Exit.then]
    refine bodyPost_ret (by simp [results, Try.results25, go_sem, q0, q1]; try rfl) rfl ⟨.slice none 0 0, rfl, by rw [HV.out]; exact is_none _ _, ?_⟩
    have hB := HT.out.bl
    (repeat' (first | (with_reducible exact Below.refl _ _) | (with_reducible assumption) | (with_reducible refine Below.setCell ?_ ?_ _) | (with_reducible refine Below.alloc ?_ ?_ _) | (with_reducible refine below_drewN ?_ _) | (with_reducible refine Below.drew ?_) | (with_reducible exact Nat.le_refl _) | omega | (simp; done) | (simp; omega)))
  subst hx0
  have HV : Hid (uoL Z s t = urL Z s t) := H.out.1 rfl
  have HU2 : Hid (Calls Try.prog 49 #[.agg #[.int .i64 Z, .slice a n c, .slice b m d]] w1 fun e w' => ∃ v, e = .returned v ∧ IS w' w1.heap.size v (urL Z s t) ∧ Below w1.heap.size w1 w') := HU.out rfl w1 HT.out.bl
  clear HU H
  go_wp2_with (fail)
  refine HU2.out.mono ?_
  rintro e w2 ⟨v, rfl, hI, hb2⟩
  obtain ⟨va, vc, hv⟩ := hI.form
  obtain ⟨ln, hln⟩ : ∃ n, n = (urL Z s t).length := ⟨_, rfl⟩
  rw [← hln] at hv
  subst hv
  have hl1 : w.heap.size + 1 < w1.heap.size := ltOf HT.out.b1
  have HW : Hid (S2 w (.cells #[.int .i64 Z, .slice a n c, .slice b m d] 45) (.cells #[.int .i64 0, .slice none 0 0] 50) w2 ∧ IS w2 w1.heap.size (.slice va ln vc) (urL Z s t)) := ⟨HT.out.next hb2, hI⟩
  clear hI hb2 HU2 p0 p1 p2 pl q0 q1 qf0 qf1 ql hln
  obtain ⟨q0, q1, qf, ql⟩ := tw_two HW.out.1.b1
  have qf0 := qf 0
  have qf1 := qf 1
  clear qf
  have HI2 : Hid (IS ((w2.setCell ⟨w.heap.size + 1, 0, none⟩ (.int .i64 0)).setCell ⟨w.heap.size + 1, 1, none⟩ (.slice va ln vc)) w.heap.size (.slice va ln vc) (urL Z s t) ∧ Below w.heap.size w ((w2.setCell ⟨w.heap.size + 1, 0, none⟩ (.int .i64 0)).setCell ⟨w.heap.size + 1, 1, none⟩ (.slice va ln vc))) := by
    refine ⟨(HW.out.2.kept fun q hq => ?_).low (by omega), ?_⟩
    · have h3 := (IS.lt HW.out.2 q hq).1
      rw [heap_setCell_other _ _ _ _ (by simp; omega), heap_setCell_other _ _ _ _ (by simp; omega)]
    · have hB := HW.out.1.bl
      (repeat' (first | (with_reducible exact Below.refl _ _) | (with_reducible assumption) | (with_reducible refine Below.setCell ?_ ?_ _) | (with_reducible refine Below.alloc ?_ ?_ _) | (with_reducible refine below_drewN ?_ _) | (with_reducible refine Below.drew ?_) | (with_reducible exact Nat.le_refl _) | omega | (simp; done) | (simp; omega)))
  go_wp2
  try simp only [Exit.inBlock, Exit.then]
  refine bodyPost_ret (by simp [results, Try.results25, go_sem, q0, q1]; try rfl) rfl ⟨.slice va ln vc, rfl, by rw [HV.out]; exact HI2.out.1, HI2.out.2⟩

end Go.Proofs.Ytgbbigokbbllgaa
