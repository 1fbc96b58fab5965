/- Proved here: the faults of shots and a writer together, of both: wsF; with what is wanted: weF. -/
import Derived.Test.YtedlokjbpfgbgaaShF
import Derived.Test.YtedlokjbpfgbgaaWtF
namespace Go.Proofs.Ytedlokjbpfgbgaa
open Go.RowKit
set_option linter.unusedVariables false
set_option linter.unusedSimpArgs false

def wsF (l : List Sh) (x : Wt) : Int := if wtF x = 0 then shF l else wtF x
def weF (l : List Sh) (x : Wt) (z : Int) : Int := if wsF l x = 0 then (if 0 ≤ z ∧ z ≤ 1000000000 then 0 else 3) else wsF l x
theorem wsF_good {l : List Sh} {x : Wt} (h : wsF l x = 0) : wtF x = 0 ∧ shF l = 0 := by
  unfold wsF at h
  by_cases h1 : wtF x = 0
  · rw [if_pos h1] at h; exact ⟨h1, h⟩
  · rw [if_neg h1] at h; exact absurd h h1
theorem weF_good {l : List Sh} {x : Wt} {z : Int} (h : weF l x z = 0) : wsF l x = 0 ∧ 0 ≤ z ∧ z ≤ 1000000000 := by
  unfold weF at h
  by_cases h1 : wsF l x = 0
  · rw [if_pos h1] at h
    by_cases h2 : 0 ≤ z ∧ z ≤ 1000000000
    · exact ⟨h1, h2⟩
    · rw [if_neg h2] at h; cases h
  · rw [if_neg h1] at h; exact absurd h h1
theorem first_below {w w1 V : World} (hb : Below V.heap.size V w1) (hv : Below w.heap.size w V := by (repeat' (first | (with_reducible exact Below.refl _ _) | (with_reducible assumption) | (with_reducible refine Below.setCell ?_ ?_ _) | (with_reducible refine Below.alloc ?_ ?_ _) | (with_reducible refine below_drewN ?_ _) | (with_reducible refine Below.drew ?_) | (with_reducible exact Nat.le_refl _) | omega | (simp; done) | (simp; omega)))) : Below w.heap.size w w1 := hv.trans (hb.mono hv.size)

set_option maxRecDepth 10000 in
set_option maxHeartbeats 3200000 in
theorem impl_wsF (l : List Sh) (x : Wt) {w : World} {v : Value} (hn : l.length ≤ 1048576) (h : RG 5 shC w v l) :
    Calls Try.prog 28 #[v, .agg #[.int .i64 x.f.x0, .int .i64 x.f.y0, .int .i64 x.f.x1, .int .i64 x.f.y1, .int .i64 x.o, .int .i64 x.s, .int .i64 x.r]] w fun e w' => e = .returned (.int .i64 (wsF l x)) ∧ Below w.heap.size w w' := by
  obtain ⟨a, c, rfl⟩ := h.form
  obtain ⟨n, hnn⟩ : ∃ n, n = l.length := ⟨_, rfl⟩
  obtain ⟨C, hC⟩ : ∃ C, C = wsF l x := ⟨_, rfl⟩
  obtain ⟨y, hy⟩ : ∃ y, y = wtF x := ⟨_, rfl⟩
  obtain ⟨z, hz⟩ : ∃ z, z = shF l := ⟨_, rfl⟩
  rw [← hnn] at h ⊢
  rw [← hC]
  have H : Hid (C = wsF l x ∧ y = wtF x ∧ z = shF l) := ⟨hC, hy, hz⟩
  have HW : Hid (∀ W : World, Calls Try.prog 48 #[.agg #[.int .i64 x.f.x0, .int .i64 x.f.y0, .int .i64 x.f.x1, .int .i64 x.f.y1, .int .i64 x.o, .int .i64 x.s, .int .i64 x.r]] W fun e w' => e = .returned (.int .i64 y) ∧ Below W.heap.size W w') := fun W => by rw [hy]; exact impl_writer x W
  have HS : Hid (∀ W : World, Below w.heap.size w W → Calls Try.prog 49 #[.slice a n c] W fun e w' => e = .returned (.int .i64 z) ∧ Below W.heap.size W w') := fun W hW => by rw [hz]; exact impl_shots hn (h.below hW)
  clear h hn hnn hC hy hz
  go_enter Try.func28, Try.ntmps28
  go_wp2_with (fail)
  refine (HW.out _).mono ?_
  rintro e w1 ⟨rfl, hb1⟩
  have HB1 : Hid (Below w.heap.size w w1) := first_below hb1
  clear hb1 HW
  by_cases hy0 : y = 0
  case neg =>
    have HE : Hid (C = y) := by unfold Hid; rw [H.out.1, wsF, if_neg (by rw [← H.out.2.1]; exact hy0), H.out.2.1]
    go_wp2
    go_returns
    exact ⟨by rw [HE.out]; rfl, HB1.out⟩
  have HE : Hid (C = z) := by unfold Hid; rw [H.out.1, wsF, if_pos (by rw [← H.out.2.1]; exact hy0), H.out.2.2]
  subst hy0
  go_wp2_with (fail)
  refine (HS.out _ HB1.out).mono ?_
  rintro e w2 ⟨rfl, hb2⟩
  have HB2 : Hid (Below w.heap.size w w2) := HB1.out.trans (hb2.mono HB1.out.size)
  clear hb2
  go_wp2
  go_returns
  exact ⟨by rw [HE.out]; rfl, HB2.out⟩

set_option maxRecDepth 10000 in
set_option maxHeartbeats 3200000 in
theorem spec_wsF (l : List Sh) (x : Wt) {w : World} {v : Value} (hn : l.length ≤ 1048576) (h : RG 5 shC w v l) :
    Calls Try.prog 24 #[v, .agg #[.int .i64 x.f.x0, .int .i64 x.f.y0, .int .i64 x.f.x1, .int .i64 x.f.y1, .int .i64 x.o, .int .i64 x.s, .int .i64 x.r]] w fun e w' => e = .returned (.int .i64 (wsF l x)) ∧ Below w.heap.size w w' := by
  obtain ⟨a, c, rfl⟩ := h.form
  obtain ⟨n, hnn⟩ : ∃ n, n = l.length := ⟨_, rfl⟩
  obtain ⟨C, hC⟩ : ∃ C, C = wsF l x := ⟨_, rfl⟩
  obtain ⟨y, hy⟩ : ∃ y, y = wtF x := ⟨_, rfl⟩
  obtain ⟨z, hz⟩ : ∃ z, z = shF l := ⟨_, rfl⟩
  rw [← hnn] at h ⊢
  rw [← hC]
  have H : Hid (C = wsF l x ∧ y = wtF x ∧ z = shF l) := ⟨hC, hy, hz⟩
  have HW : Hid (∀ W : World, Calls Try.prog 45 #[.agg #[.int .i64 x.f.x0, .int .i64 x.f.y0, .int .i64 x.f.x1, .int .i64 x.f.y1, .int .i64 x.o, .int .i64 x.s, .int .i64 x.r]] W fun e w' => e = .returned (.int .i64 y) ∧ Below W.heap.size W w') := fun W => by rw [hy]; exact spec_writer x W
  have HS : Hid (∀ W : World, Below w.heap.size w W → Calls Try.prog 46 #[.slice a n c] W fun e w' => e = .returned (.int .i64 z) ∧ Below W.heap.size W w') := fun W hW => by rw [hz]; exact spec_shots hn (h.below hW)
  clear h hn hnn hC hy hz
  go_enter Try.func24, Try.ntmps24
  go_wp2_with (fail)
  refine (HW.out _).mono ?_
  rintro e w1 ⟨rfl, hb1⟩
  have HB1 : Hid (Below w.heap.size w w1) := first_below hb1
  clear hb1 HW
  by_cases hy0 : y = 0
  case neg =>
    have HE : Hid (C = y) := by unfold Hid; rw [H.out.1, wsF, if_neg (by rw [← H.out.2.1]; exact hy0), H.out.2.1]
    go_wp2
    go_returns
    exact ⟨by rw [HE.out]; rfl, HB1.out⟩
  have HE : Hid (C = z) := by unfold Hid; rw [H.out.1, wsF, if_pos (by rw [← H.out.2.1]; exact hy0), H.out.2.2]
  subst hy0
  go_wp2_with (fail)
  refine (HS.out _ HB1.out).mono ?_
  rintro e w2 ⟨rfl, hb2⟩
  have HB2 : Hid (Below w.heap.size w w2) := HB1.out.trans (hb2.mono HB1.out.size)
  clear hb2
  go_wp2
  go_returns
  exact ⟨by rw [HE.out]; rfl, HB2.out⟩

end Go.Proofs.Ytedlokjbpfgbgaa
