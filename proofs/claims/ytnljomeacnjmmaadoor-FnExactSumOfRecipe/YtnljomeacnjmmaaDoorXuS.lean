/- Proved here: what is wrong with a value where it stands, of the model. -/
import Derived.Test.YtnljomeacnjmmaaDoorXnS
import Derived.Test.YtnljomeacnjmmaaDoorXvS
namespace Go.Proofs.YtnljomeacnjmmaaDoor
open Go.ChangeShapes Go.WideShapes Go.ChangeAt Go.RowKit Go.Joins
set_option linter.unusedVariables false
set_option linter.unusedSimpArgs false


set_option maxRecDepth 10000 in
set_option maxHeartbeats 3200000 in
theorem spec_use (r : Rr) (v : Vl) (ps : List Pm) {W : World} (hpn : r.pn ≤ 1500000) (hv : v.s.size ≤ 2000000) (hp : RG 4 pmC W (.slice r.pa r.pn r.pc) ps) :
    Calls Tryd.prog 43 #[.agg #[.string r.nm, .slice r.pa r.pn r.pc, .slice r.sa r.sn r.sc], .agg #[.int .i64 v.k, .int .i64 v.n, .string v.s]] W fun e w' => e = .returned (.int .i64 (useK ps v)) ∧ Below W.heap.size W w' := by
  obtain ⟨K, hK⟩ : ∃ K, K = useK ps v := ⟨_, rfl⟩
  obtain ⟨T, hT⟩ : ∃ T, T = vtS v := ⟨_, rfl⟩
  obtain ⟨A, hA⟩ : ∃ A, A = atL (pnm ps) v.s := ⟨_, rfl⟩
  have hW := useK_ways hK hT hA
  have HT : Hid (∀ X, Below W.heap.size W X → Calls Tryd.prog 27 #[.agg #[.int .i64 v.k, .int .i64 v.n, .string v.s]] X fun e w' => e = .returned (.string T) ∧ Below X.heap.size X w') := fun X hb => by rw [hT]; exact spec_vt v X hv
  have HA : Hid (∀ X, Below W.heap.size W X → Calls Tryd.prog 23 #[.agg #[.string r.nm, .slice r.pa r.pn r.pc, .slice r.sa r.sn r.sc], .int .i64 (r.pn : Int), .string v.s] X fun e w' => e = .returned (.int .i64 A) ∧ Below X.heap.size X w') := fun X hb => by
    have := spec_atParam r ps v.s (W := X) (n := r.pn) (by omega) (Nat.le_refl _) (hp.below hb)
    rw [List.take_of_length_le (by rw [hp.len]; exact Nat.le_refl _)] at this
    rw [hA]; exact this
  clear hp
  rw [← hK]
  clear hK hT hA
  have HB0 : Hid (Below W.heap.size W ((W.alloc (.cells #[.string r.nm, .slice r.pa r.pn r.pc, .slice r.sa r.sn r.sc] 33)).alloc (.cells #[.int .i64 v.k, .int .i64 v.n, .string v.s] 61))) := by unfold Hid; (repeat' (first | (with_reducible exact Below.refl _ _) | (with_reducible assumption) | (with_reducible refine Below.setCell ?_ ?_ _) | (with_reducible refine Below.alloc ?_ ?_ _) | (with_reducible refine below_drewN ?_ _) | (with_reducible refine Below.drew ?_) | (with_reducible exact Nat.le_refl _) | omega | (simp; done) | (simp; omega)))
  go_enter Tryd.func43, Tryd.ntmps43
  go_wp2_with (fail)
  refine (HT.out _ HB0.out).mono ?_
  rintro e w1 ⟨rfl, hb1⟩
  have HK1 : Hid (w1.heap[W.heap.size]? = some (.cells #[.string r.nm, .slice r.pa r.pn r.pc, .slice r.sa r.sn r.sc] 33) ∧ w1.heap[W.heap.size + 1]? = some (.cells #[.int .i64 v.k, .int .i64 v.n, .string v.s] 61)) := ⟨(hb1.block _ (by simp; omega)).trans ((Below.heap_alloc _ _ _ (by simp)).trans (heap_alloc_new _ _)), (hb1.block _ (by simp)).trans (heap_alloc_at1 W _ _)⟩
  have HB1 : Hid (Below W.heap.size W w1) := HB0.out.trans (hb1.mono (by simp; omega))
  clear hb1 HT HB0
  rcases hW with ⟨h1, h2⟩ | ⟨h1, h2, h3, h4⟩ | ⟨h1, h2, h3, h4⟩ | ⟨h1, h2, h3⟩
  · subst h1 h2
    go_wp2
    go_returns
    exact ⟨rfl, HB1.out⟩
  · subst h4
    obtain ⟨e1, e2⟩ := ne_empty h1
    clear h1
    obtain ⟨q0, q1, q2, qf, ql⟩ := three_at HK1.out.2
    obtain ⟨r0, r1, r2, rf, rl⟩ := three_at HK1.out.1
    clear qf rf
    rw [h2] at q0
    go_wp2_with (fail)
    refine (HA.out _ HB1.out).mono ?_
    rintro e w2 ⟨rfl, hb2⟩
    have HB2 : Hid (Below W.heap.size W w2) := HB1.out.trans (hb2.mono HB1.out.size)
    clear hb2 HB1 q0 q1 q2 ql
    go_wp2
    go_returns
    exact ⟨rfl, HB2.out⟩
  · subst h4
    obtain ⟨e1, e2⟩ := ne_empty h1
    clear h1
    obtain ⟨q0, q1, q2, qf, ql⟩ := three_at HK1.out.2
    obtain ⟨r0, r1, r2, rf, rl⟩ := three_at HK1.out.1
    clear qf rf
    rw [h2] at q0
    go_wp2_with (fail)
    refine (HA.out _ HB1.out).mono ?_
    rintro e w2 ⟨rfl, hb2⟩
    have HB2 : Hid (Below W.heap.size W w2) := HB1.out.trans (hb2.mono HB1.out.size)
    clear hb2 HB1 q0 q1 q2 ql
    go_wp2
    go_returns
    exact ⟨rfl, HB2.out⟩
  · subst h3
    obtain ⟨e1, e2⟩ := ne_empty h1
    clear h1
    obtain ⟨q0, q1, q2, qf, ql⟩ := three_at HK1.out.2
    obtain ⟨r0, r1, r2, rf, rl⟩ := three_at HK1.out.1
    clear qf rf
    go_wp2
    go_returns
    exact ⟨rfl, HB1.out⟩

end Go.Proofs.YtnljomeacnjmmaaDoor
