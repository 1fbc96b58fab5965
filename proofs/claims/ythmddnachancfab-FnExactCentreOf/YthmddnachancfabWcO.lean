/- Proved here: CentreOf of both. -/
import Derived.Test.YthmddnachancfabLow
import Derived.Test.YthmddnachancfabBoxF
import Derived.Test.YthmddnachancfabWnE
import Derived.Deep.DeepCutAuto
namespace Go.Proofs.Ythmddnachancfab
open Go.RowKit
set_option linter.unusedVariables false
set_option linter.unusedSimpArgs false

def coC (C x0 y0 x1 y1 : Int) : Int := if C = 0 ∧ bfK ⟨x0, y0, x1, y1⟩ = 0 then rqC (x0 + x1 - 1) 2 else 1
def coN (C x0 y0 x1 y1 : Int) : Int := if C = 0 ∧ bfK ⟨x0, y0, x1, y1⟩ = 0 then rqN (x0 + x1 - 1) 2 else 0
def coD (C x0 y0 x1 y1 : Int) : Int := if C = 0 ∧ bfK ⟨x0, y0, x1, y1⟩ = 0 then rqD (x0 + x1 - 1) 2 else 0

set_option maxHeartbeats 1600000 in
theorem impl_make2 (n : Int) (w : World) (hn : -100000 ≤ n ∧ n ≤ 100000) :
    Calls Try.prog 19 #[.int .i64 n, .int .i64 2] w fun e w' => e = .returned (.agg #[.int .i64 (rqC n 2), .int .i64 (rqN n 2), .int .i64 (rqD n 2)]) ∧ Below w.heap.size w w' := by
  obtain ⟨a, ha⟩ : ∃ a, a = rqC n 2 := ⟨_, rfl⟩
  obtain ⟨b, hb⟩ : ∃ a, a = rqN n 2 := ⟨_, rfl⟩
  obtain ⟨c, hc⟩ : ∃ a, a = rqD n 2 := ⟨_, rfl⟩
  have HQ : Hid (∀ V, Calls Try.prog 36 #[.int .i64 n, .int .i64 2] V fun e w' => e = .returned (.agg #[.int .i64 a, .int .i64 b, .int .i64 c]) ∧ Below V.heap.size V w') := fun V => by
    rw [ha, hb, hc]; exact impl_rq_pos n 2 V (by omega) (by omega) (by omega) (by omega)
  rw [← ha, ← hb, ← hc]
  clear ha hb hc
  go_enter Try.func19, Try.ntmps19
  go_wp2_with (fail)
  refine (HQ.out _).mono ?_
  rintro e w1 ⟨rfl, hb1⟩
  have j1 := (hb1.block w.heap.size (by simp)).trans (heap_alloc_new w (.cells #[.int .i64 0, .int .i64 0, .int .i64 0] 29))
  obtain ⟨q0, q1, q2, qf0, qf1, qf2, ql⟩ := three_of j1
  have HB : Hid (Below w.heap.size w w1) := (show Below w.heap.size w _ from by (repeat' (first | (with_reducible exact Below.refl _ _) | (with_reducible assumption) | (with_reducible refine Below.setCell ?_ ?_ _) | (with_reducible refine Below.alloc ?_ ?_ _) | (with_reducible refine below_drewN ?_ _) | (with_reducible refine Below.drew ?_) | (with_reducible exact Nat.le_refl _) | omega | (simp; done) | (simp; omega)))).trans (hb1.mono (by simp))
  clear hb1 j1
  go_wp2
  try simp only [Exit.inBlock, Exit.then]
  refine bodyPost_ret (by simp [results, Try.results19, go_sem, q0, q1, q2, ql]; try rfl) rfl ⟨rfl, ?_⟩
  have hb := HB.out
  (repeat' (first | (with_reducible exact Below.refl _ _) | (with_reducible assumption) | (with_reducible refine Below.setCell ?_ ?_ _) | (with_reducible refine Below.alloc ?_ ?_ _) | (with_reducible refine below_drewN ?_ _) | (with_reducible refine Below.drew ?_) | (with_reducible exact Nat.le_refl _) | omega | (simp; done) | (simp; omega)))

set_option maxRecDepth 10000 in
set_option maxHeartbeats 6400000 in
theorem impl_co (C A x0 y0 x1 y1 : Int) (w : World) :
    Calls Try.prog 7 #[.agg #[.int .i64 C, .int .i64 A, .int .i64 x0, .int .i64 y0, .int .i64 x1, .int .i64 y1]] w fun e w' => e = .returned (.agg #[.int .i64 (coC C x0 y0 x1 y1), .int .i64 (coN C x0 y0 x1 y1), .int .i64 (coD C x0 y0 x1 y1)]) ∧ Below w.heap.size w w' := by
  obtain ⟨K, hK⟩ : ∃ K, K = bfK ⟨x0, y0, x1, y1⟩ := ⟨_, rfl⟩
  obtain ⟨r0, h0⟩ : ∃ r, r = coC C x0 y0 x1 y1 := ⟨_, rfl⟩
  obtain ⟨r1, h1⟩ : ∃ r, r = coN C x0 y0 x1 y1 := ⟨_, rfl⟩
  obtain ⟨r2, h2⟩ : ∃ r, r = coD C x0 y0 x1 y1 := ⟨_, rfl⟩
  rw [← h0, ← h1, ← h2]
  have HR : Hid (r0 = (if C = 0 ∧ K = 0 then rqC (x0 + x1 - 1) 2 else 1) ∧ r1 = (if C = 0 ∧ K = 0 then rqN (x0 + x1 - 1) 2 else 0) ∧ r2 = (if C = 0 ∧ K = 0 then rqD (x0 + x1 - 1) 2 else 0)) := ⟨by rw [h0, hK]; rfl, by rw [h1, hK]; rfl, by rw [h2, hK]; rfl⟩
  have HBF : Hid (∀ V, Calls Try.prog 18 #[.agg #[.int .i64 x0, .int .i64 y0, .int .i64 x1, .int .i64 y1]] V fun e w' => e = .returned (.int .i64 K) ∧ Below V.heap.size V w') := fun V => by rw [hK]; exact impl_box ⟨x0, y0, x1, y1⟩ V
  have HK : Hid (K = bfK ⟨x0, y0, x1, y1⟩) := hK
  clear h0 h1 h2 hK
  obtain ⟨V, hV⟩ : ∃ V, V = (w.alloc (.cells #[.int .i64 C, .int .i64 A, .int .i64 x0, .int .i64 y0, .int .i64 x1, .int .i64 y1] 33)).alloc (.cells #[.int .i64 0, .int .i64 0, .int .i64 0] 29) := ⟨_, rfl⟩
  obtain ⟨k0, k1, hb, hs⟩ := al2 hV
  have HV : Hid (V.heap[w.heap.size]? = some (.cells #[.int .i64 C, .int .i64 A, .int .i64 x0, .int .i64 y0, .int .i64 x1, .int .i64 y1] 33) ∧ V.heap[w.heap.size + 1]? = some (.cells #[.int .i64 0, .int .i64 0, .int .i64 0] 29) ∧ Below w.heap.size w V) := ⟨k0, k1, hb⟩
  clear k0 k1 hb hs
  obtain ⟨p0, p1, p2, p3, p4, p5, _, pl⟩ := sixS HV.out.1
  obtain ⟨q0, q1, q2, qf0, qf1, qf2, ql⟩ := three_of HV.out.2.1
  go_enter Try.func7, Try.ntmps7
  go_upto_region 1 with fail
  rw [← hV]
  clear hV
  by_cases hC0 : C = 0
  case neg =>
    have HZ : Hid (r0 = 1 ∧ r1 = 0 ∧ r2 = 0) := by
      have h := HR.out
      have hno : ¬ (C = 0 ∧ K = 0) := fun e => hC0 e.1
      rw [if_neg hno, if_neg hno, if_neg hno] at h; exact h
    have hA1 : (C != 0) = true := by simpa using hC0
    go_wp2
    try simp only [Exit.inBlock, Exit.then]
    refine bodyPost_ret (by simp [results, Try.results7, go_sem, q0, q1, q2, ql]; try rfl) rfl ⟨by rw [HZ.out.1, HZ.out.2.1, HZ.out.2.2], ?_⟩
    have hb := HV.out.2.2
    (repeat' (first | (with_reducible exact Below.refl _ _) | (with_reducible assumption) | (with_reducible refine Below.setCell ?_ ?_ _) | (with_reducible refine Below.alloc ?_ ?_ _) | (with_reducible refine below_drewN ?_ _) | (with_reducible refine Below.drew ?_) | (with_reducible exact Nat.le_refl _) | omega | (simp; done) | (simp; omega)))
  have hA2 : (C != 0) = false := by rw [hC0]; simp
  have HR2 : Hid (r0 = (if K = 0 then rqC (x0 + x1 - 1) 2 else 1) ∧ r1 = (if K = 0 then rqN (x0 + x1 - 1) 2 else 0) ∧ r2 = (if K = 0 then rqD (x0 + x1 - 1) 2 else 0)) := by
    have h := HR.out
    by_cases e : K = 0
    · have hall : C = 0 ∧ K = 0 := ⟨hC0, e⟩
      rw [if_pos hall, if_pos hall, if_pos hall] at h
      rw [if_pos e, if_pos e, if_pos e]; exact h
    · have hno : ¬ (C = 0 ∧ K = 0) := fun e2 => e e2.2
      rw [if_neg hno, if_neg hno, if_neg hno] at h
      rw [if_neg e, if_neg e, if_neg e]; exact h
  clear HR hC0
  go_wp2_with (fail)
  refine (HBF.out _).mono ?_
  rintro e w1 ⟨rfl, hb1⟩
  have HW : Hid (w1.heap[w.heap.size]? = some (.cells #[.int .i64 C, .int .i64 A, .int .i64 x0, .int .i64 y0, .int .i64 x1, .int .i64 y1] 33) ∧ w1.heap[w.heap.size + 1]? = some (.cells #[.int .i64 0, .int .i64 0, .int .i64 0] 29) ∧ Below w.heap.size w w1) := ⟨(hb1.block _ (ltOf HV.out.1)).trans HV.out.1, (hb1.block _ (ltOf HV.out.2.1)).trans HV.out.2.1, HV.out.2.2.trans (hb1.mono HV.out.2.2.size)⟩
  clear HV hb1 HBF p0 p1 p2 p3 p4 p5 pl q0 q1 q2 qf0 qf1 qf2 ql
  obtain ⟨p0, p1, p2, p3, p4, p5, _, pl⟩ := sixS HW.out.1
  obtain ⟨q0, q1, q2, qf0, qf1, qf2, ql⟩ := three_of HW.out.2.1
  by_cases hK0 : K = 0
  case neg =>
    have HZ : Hid (r0 = 1 ∧ r1 = 0 ∧ r2 = 0) := by
      have h := HR2.out
      rw [if_neg hK0, if_neg hK0, if_neg hK0] at h; exact h
    have hA1 : (K != 0) = true := by simpa using hK0
    go_wp2
    try simp only [Exit.inBlock, Exit.then]
    refine bodyPost_ret (by simp [results, Try.results7, go_sem, q0, q1, q2, ql]; try rfl) rfl ⟨by rw [HZ.out.1, HZ.out.2.1, HZ.out.2.2], ?_⟩
    have hb := HW.out.2.2
    (repeat' (first | (with_reducible exact Below.refl _ _) | (with_reducible assumption) | (with_reducible refine Below.setCell ?_ ?_ _) | (with_reducible refine Below.alloc ?_ ?_ _) | (with_reducible refine below_drewN ?_ _) | (with_reducible refine Below.drew ?_) | (with_reducible exact Nat.le_refl _) | omega | (simp; done) | (simp; omega)))
  have hbd : -10000 ≤ x0 ∧ x0 < x1 ∧ x1 ≤ 10000 := by
    have h := HK.out
    unfold bfK at h
    rw [hK0] at h
    split at h
    · cases h
    · split at h
      · cases h
      · rename_i g1 g2
        have g1' : ¬ (x1 ≤ x0 ∨ y1 ≤ y0) := g1
        have g2' : ¬ (x0 < -10000 ∨ y0 < -10000 ∨ 10000 < x1 ∨ 10000 < y1) := g2
        omega
  obtain ⟨n, hn⟩ : ∃ n, n = x0 + x1 - 1 := ⟨_, rfl⟩
  have hw1 : IntKind.i64.wrap (x0 + x1) = x0 + x1 := by rw [IntKind.wrap_i64]; omega
  have hw2 : IntKind.i64.wrap (x0 + x1 - 1) = n := by rw [← hn, IntKind.wrap_i64]; omega
  have hnb : -100000 ≤ n ∧ n ≤ 100000 := by omega
  have HM : Hid (∀ V, Calls Try.prog 19 #[.int .i64 n, .int .i64 2] V fun e w' => e = .returned (.agg #[.int .i64 r0, .int .i64 r1, .int .i64 r2]) ∧ Below V.heap.size V w') := fun V => by
    have h := HR2.out
    rw [if_pos hK0, if_pos hK0, if_pos hK0, ← hn] at h
    rw [h.1, h.2.1, h.2.2]
    exact impl_make2 n V hnb
  clear HR2 hn HK hbd
  subst hK0
  go_wp2_with (fail)
  refine (HM.out _).mono ?_
  rintro e w2 ⟨rfl, hb2⟩
  have HB2 : Hid (Below w.heap.size w w2) := HW.out.2.2.trans (hb2.mono HW.out.2.2.size)
  have j1 := (hb2.block _ (ltOf HW.out.2.1)).trans HW.out.2.1
  clear p0 p1 p2 p3 p4 p5 pl q0 q1 q2 qf0 qf1 qf2 ql
  obtain ⟨q0, q1, q2, qf0, qf1, qf2, ql⟩ := three_of j1
  clear j1 hb2 HW HM
  go_wp2
  try simp only [Exit.inBlock, Exit.then]
  refine bodyPost_ret (by simp [results, Try.results7, go_sem, q0, q1, q2, ql]; try rfl) rfl ⟨rfl, ?_⟩
  have hb := HB2.out
  (repeat' (first | (with_reducible exact Below.refl _ _) | (with_reducible assumption) | (with_reducible refine Below.setCell ?_ ?_ _) | (with_reducible refine Below.alloc ?_ ?_ _) | (with_reducible refine below_drewN ?_ _) | (with_reducible refine Below.drew ?_) | (with_reducible exact Nat.le_refl _) | omega | (simp; done) | (simp; omega)))

set_option maxRecDepth 10000 in
set_option maxHeartbeats 6400000 in
theorem spec_co (C A x0 y0 x1 y1 : Int) (w : World) :
    Calls Try.prog 5 #[.agg #[.int .i64 C, .int .i64 A, .int .i64 x0, .int .i64 y0, .int .i64 x1, .int .i64 y1]] w fun e w' => e = .returned (.agg #[.int .i64 (coC C x0 y0 x1 y1), .int .i64 (coN C x0 y0 x1 y1), .int .i64 (coD C x0 y0 x1 y1)]) ∧ Below w.heap.size w w' := by
  obtain ⟨K, hK⟩ : ∃ K, K = bfK ⟨x0, y0, x1, y1⟩ := ⟨_, rfl⟩
  obtain ⟨r0, h0⟩ : ∃ r, r = coC C x0 y0 x1 y1 := ⟨_, rfl⟩
  obtain ⟨r1, h1⟩ : ∃ r, r = coN C x0 y0 x1 y1 := ⟨_, rfl⟩
  obtain ⟨r2, h2⟩ : ∃ r, r = coD C x0 y0 x1 y1 := ⟨_, rfl⟩
  rw [← h0, ← h1, ← h2]
  have HR : Hid (r0 = (if C = 0 ∧ K = 0 then rqC (x0 + x1 - 1) 2 else 1) ∧ r1 = (if C = 0 ∧ K = 0 then rqN (x0 + x1 - 1) 2 else 0) ∧ r2 = (if C = 0 ∧ K = 0 then rqD (x0 + x1 - 1) 2 else 0)) := ⟨by rw [h0, hK]; rfl, by rw [h1, hK]; rfl, by rw [h2, hK]; rfl⟩
  have HBF : Hid (∀ V, Calls Try.prog 15 #[.agg #[.int .i64 x0, .int .i64 y0, .int .i64 x1, .int .i64 y1]] V fun e w' => e = .returned (.int .i64 K) ∧ Below V.heap.size V w') := fun V => by rw [hK]; exact spec_box ⟨x0, y0, x1, y1⟩ V
  have HK : Hid (K = bfK ⟨x0, y0, x1, y1⟩) := hK
  clear h0 h1 h2 hK
  obtain ⟨V, hV⟩ : ∃ V, V = (w.alloc (.cells #[.int .i64 C, .int .i64 A, .int .i64 x0, .int .i64 y0, .int .i64 x1, .int .i64 y1] 33)).alloc (.cells #[.int .i64 0, .int .i64 0, .int .i64 0] 29) := ⟨_, rfl⟩
  obtain ⟨k0, k1, hb, hs⟩ := al2 hV
  have HV : Hid (V.heap[w.heap.size]? = some (.cells #[.int .i64 C, .int .i64 A, .int .i64 x0, .int .i64 y0, .int .i64 x1, .int .i64 y1] 33) ∧ V.heap[w.heap.size + 1]? = some (.cells #[.int .i64 0, .int .i64 0, .int .i64 0] 29) ∧ Below w.heap.size w V) := ⟨k0, k1, hb⟩
  clear k0 k1 hb hs
  obtain ⟨p0, p1, p2, p3, p4, p5, _, pl⟩ := sixS HV.out.1
  obtain ⟨q0, q1, q2, qf0, qf1, qf2, ql⟩ := three_of HV.out.2.1
  go_enter Try.func5, Try.ntmps5
  go_upto_region 1 with fail
  rw [← hV]
  clear hV
  by_cases hC0 : C = 0
  case neg =>
    have HZ : Hid (r0 = 1 ∧ r1 = 0 ∧ r2 = 0) := by
      have h := HR.out
      have hno : ¬ (C = 0 ∧ K = 0) := fun e => hC0 e.1
      rw [if_neg hno, if_neg hno, if_neg hno] at h; exact h
    have hA1 : (C != 0) = true := by simpa using hC0
    go_wp2
    try simp only [Exit.inBlock, Exit.then]
    refine bodyPost_ret (by simp [results, Try.results5, go_sem, q0, q1, q2, ql]; try rfl) rfl ⟨by rw [HZ.out.1, HZ.out.2.1, HZ.out.2.2], ?_⟩
    have hb := HV.out.2.2
    (repeat' (first | (with_reducible exact Below.refl _ _) | (with_reducible assumption) | (with_reducible refine Below.setCell ?_ ?_ _) | (with_reducible refine Below.alloc ?_ ?_ _) | (with_reducible refine below_drewN ?_ _) | (with_reducible refine Below.drew ?_) | (with_reducible exact Nat.le_refl _) | omega | (simp; done) | (simp; omega)))
  have hA2 : (C != 0) = false := by rw [hC0]; simp
  have HR2 : Hid (r0 = (if K = 0 then rqC (x0 + x1 - 1) 2 else 1) ∧ r1 = (if K = 0 then rqN (x0 + x1 - 1) 2 else 0) ∧ r2 = (if K = 0 then rqD (x0 + x1 - 1) 2 else 0)) := by
    have h := HR.out
    by_cases e : K = 0
    · have hall : C = 0 ∧ K = 0 := ⟨hC0, e⟩
      rw [if_pos hall, if_pos hall, if_pos hall] at h
      rw [if_pos e, if_pos e, if_pos e]; exact h
    · have hno : ¬ (C = 0 ∧ K = 0) := fun e2 => e e2.2
      rw [if_neg hno, if_neg hno, if_neg hno] at h
      rw [if_neg e, if_neg e, if_neg e]; exact h
  clear HR hC0
  go_wp2_with (fail)
  refine (HBF.out _).mono ?_
  rintro e w1 ⟨rfl, hb1⟩
  have HW : Hid (w1.heap[w.heap.size]? = some (.cells #[.int .i64 C, .int .i64 A, .int .i64 x0, .int .i64 y0, .int .i64 x1, .int .i64 y1] 33) ∧ w1.heap[w.heap.size + 1]? = some (.cells #[.int .i64 0, .int .i64 0, .int .i64 0] 29) ∧ Below w.heap.size w w1) := ⟨(hb1.block _ (ltOf HV.out.1)).trans HV.out.1, (hb1.block _ (ltOf HV.out.2.1)).trans HV.out.2.1, HV.out.2.2.trans (hb1.mono HV.out.2.2.size)⟩
  clear HV hb1 HBF p0 p1 p2 p3 p4 p5 pl q0 q1 q2 qf0 qf1 qf2 ql
  obtain ⟨p0, p1, p2, p3, p4, p5, _, pl⟩ := sixS HW.out.1
  obtain ⟨q0, q1, q2, qf0, qf1, qf2, ql⟩ := three_of HW.out.2.1
  by_cases hK0 : K = 0
  case neg =>
    have HZ : Hid (r0 = 1 ∧ r1 = 0 ∧ r2 = 0) := by
      have h := HR2.out
      rw [if_neg hK0, if_neg hK0, if_neg hK0] at h; exact h
    have hA1 : (K != 0) = true := by simpa using hK0
    go_wp2
    try simp only [Exit.inBlock, Exit.then]
    refine bodyPost_ret (by simp [results, Try.results5, go_sem, q0, q1, q2, ql]; try rfl) rfl ⟨by rw [HZ.out.1, HZ.out.2.1, HZ.out.2.2], ?_⟩
    have hb := HW.out.2.2
    (repeat' (first | (with_reducible exact Below.refl _ _) | (with_reducible assumption) | (with_reducible refine Below.setCell ?_ ?_ _) | (with_reducible refine Below.alloc ?_ ?_ _) | (with_reducible refine below_drewN ?_ _) | (with_reducible refine Below.drew ?_) | (with_reducible exact Nat.le_refl _) | omega | (simp; done) | (simp; omega)))
  have hbd : -10000 ≤ x0 ∧ x0 < x1 ∧ x1 ≤ 10000 := by
    have h := HK.out
    unfold bfK at h
    rw [hK0] at h
    split at h
    · cases h
    · split at h
      · cases h
      · rename_i g1 g2
        have g1' : ¬ (x1 ≤ x0 ∨ y1 ≤ y0) := g1
        have g2' : ¬ (x0 < -10000 ∨ y0 < -10000 ∨ 10000 < x1 ∨ 10000 < y1) := g2
        omega
  obtain ⟨n, hn⟩ : ∃ n, n = x0 + x1 - 1 := ⟨_, rfl⟩
  have hw1 : IntKind.i64.wrap (x0 + x1) = x0 + x1 := by rw [IntKind.wrap_i64]; omega
  have hw2 : IntKind.i64.wrap (x0 + x1 - 1) = n := by rw [← hn, IntKind.wrap_i64]; omega
  have hnb : -100000 ≤ n ∧ n ≤ 100000 := by omega
  have HM : Hid (∀ V, Calls Try.prog 16 #[.int .i64 n, .int .i64 2] V fun e w' => e = .returned (.agg #[.int .i64 r0, .int .i64 r1, .int .i64 r2]) ∧ Below V.heap.size V w') := fun V => by
    have h := HR2.out
    rw [if_pos hK0, if_pos hK0, if_pos hK0, ← hn] at h
    rw [h.1, h.2.1, h.2.2]
    exact spec_low_pos n 2 V (by omega) (by omega) (by omega) (by omega)
  clear HR2 hn HK hbd
  subst hK0
  go_wp2_with (fail)
  refine (HM.out _).mono ?_
  rintro e w2 ⟨rfl, hb2⟩
  have HB2 : Hid (Below w.heap.size w w2) := HW.out.2.2.trans (hb2.mono HW.out.2.2.size)
  have j1 := (hb2.block _ (ltOf HW.out.2.1)).trans HW.out.2.1
  clear p0 p1 p2 p3 p4 p5 pl q0 q1 q2 qf0 qf1 qf2 ql
  obtain ⟨q0, q1, q2, qf0, qf1, qf2, ql⟩ := three_of j1
  clear j1 hb2 HW HM
  go_wp2
  try simp only [Exit.inBlock, Exit.then]
  refine bodyPost_ret (by simp [results, Try.results5, go_sem, q0, q1, q2, ql]; try rfl) rfl ⟨rfl, ?_⟩
  have hb := HB2.out
  (repeat' (first | (with_reducible exact Below.refl _ _) | (with_reducible assumption) | (with_reducible refine Below.setCell ?_ ?_ _) | (with_reducible refine Below.alloc ?_ ?_ _) | (with_reducible refine below_drewN ?_ _) | (with_reducible refine Below.drew ?_) | (with_reducible exact Nat.le_refl _) | omega | (simp; done) | (simp; omega)))

set_option maxHeartbeats 800000 in
theorem eqFracResult_to (c x y : Int) (w : World) :
    Calls Try.prog 8 #[.agg #[.int .i64 c, .int .i64 x, .int .i64 y], .agg #[.int .i64 c, .int .i64 x, .int .i64 y]] w fun e w' => e = .returned (.bool true) ∧ Below w.heap.size w w' := by
  go_enter Try.func8, Try.ntmps8
  go_wp2
  go_returns
  exact ⟨rfl, by (repeat' (first | (with_reducible exact Below.refl _ _) | (with_reducible assumption) | (with_reducible refine Below.setCell ?_ ?_ _) | (with_reducible refine Below.alloc ?_ ?_ _) | (with_reducible refine below_drewN ?_ _) | (with_reducible refine Below.drew ?_) | (with_reducible exact Nat.le_refl _) | omega | (simp; done) | (simp; omega)))⟩

end Go.Proofs.Ythmddnachancfab
