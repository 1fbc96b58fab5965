/- Proved here: LateOf and FlowEnd of the model. -/
import Derived.Test.YtecobfhlpjlpkaaDkO
import Derived.Test.YtecobfhlpjlpkaaDkS
import Derived.Test.YtecobfhlpjlpkaaDqM
namespace Go.Proofs.Ytecobfhlpjlpkaa
open Go.RowKit
set_option linter.unusedVariables false
set_option linter.unusedSimpArgs false


set_option maxRecDepth 10000 in
set_option maxHeartbeats 3200000 in
theorem spec_lo {W : World} {a : Option Addr} {c : Nat} {vi : Value} {s : List Jb} {is : List Int} (hn : s.length ≤ 1048576) (hc : s.length ≤ c) (hi : is.length ≤ 1048576) (hs : RG 7 jbC W (.slice a s.length c) s) (hv : RdI W vi is) :
    Calls Try.prog 14 #[.slice a s.length c, vi] W fun e w' => e = .returned (.agg #[.int .i64 (joC s is), .int .i64 (lateV (joL s is))]) ∧ Below W.heap.size W w' := by
  obtain ⟨Z, hZ⟩ : ∃ Z, Z = W.alloc (.cells #[.int .i64 0, .int .i64 0] 31) := ⟨_, rfl⟩
  obtain ⟨n, hnn⟩ : ∃ n, n = s.length := ⟨_, rfl⟩
  have HZ : Hid (Below W.heap.size W Z ∧ Z.heap[W.heap.size]? = some (.cells #[.int .i64 0, .int .i64 0] 31)) := by rw [hZ]; exact ⟨by (repeat' (first | (with_reducible exact Below.refl _ _) | (with_reducible assumption) | (with_reducible refine Below.setCell ?_ ?_ _) | (with_reducible refine Below.alloc ?_ ?_ _) | (with_reducible refine below_drewN ?_ _) | (with_reducible refine Below.drew ?_) | (with_reducible exact Nat.le_refl _) | omega | (simp; done) | (simp; omega))), heap_alloc_new _ _⟩
  obtain ⟨J, hJ⟩ : ∃ J, J = jbF s := ⟨_, rfl⟩
  obtain ⟨q, hq⟩ : ∃ J, J = ordB s is := ⟨_, rfl⟩
  obtain ⟨C, hC⟩ : ∃ C, C = joC s is := ⟨_, rfl⟩
  obtain ⟨L, hL⟩ : ∃ L, L = joL s is := ⟨_, rfl⟩
  obtain ⟨D, hD⟩ : ∃ D, D = lateV L := ⟨_, rfl⟩
  have HJ : Hid (Calls Try.prog 10 #[.slice a n c] Z fun e w' => e = .returned (.int .i64 J) ∧ Below Z.heap.size Z w') := by rw [hJ, hnn]; exact spec_jf hn hc (hs.below HZ.out.1)
  have HO : Hid (∀ X, Below W.heap.size W X → Calls Try.prog 36 #[.slice a n c, vi] X fun e w' => e = .returned (.bool q) ∧ w' = X) := fun X hb => by rw [hq, hnn]; exact spec_ord hn hi (hs.below hb) (hv.below hb)
  have HL : Hid (J = 0 → q = true → ∀ X, Below W.heap.size W X → Calls Try.prog 37 #[.slice a n c, vi] X fun e w' => e = .returned (.int .i64 D) ∧ Below X.heap.size X w') := fun h1 h2 X hb => by
    rw [hJ] at h1; rw [hq] at h2
    have hok := jbF_ok h1
    obtain ⟨h3, h4⟩ := ordB_at h2
    rw [hD, hL, (joC_ok h1 h2).2, hnn]
    exact spec_late hn (by rw [h3]; exact hok.len) (fun i hi => (h4 i hi).1) (pkL_ok hok fun i hi => (h4 i hi).1) (hs.below hb) (hv.below hb)
  have HR : Hid ((J ≠ 0 → C = J ∧ D = 0) ∧ (J = 0 → q = false → C = 1 ∧ D = 0) ∧ (J = 0 → q = true → C = 0)) := by
    rw [hC, hD, hL, hJ, hq]
    refine ⟨fun h => ⟨(joC_bad h).1, by rw [(joC_bad h).2]; rfl⟩, fun h h2 => ⟨(joC_no h h2).1, by rw [(joC_no h h2).2]; rfl⟩, fun h h2 => (joC_ok h h2).1⟩
  rw [← hL, ← hC, ← hD, ← hnn]
  clear hC hL hnn hs hv hn hi hc hJ hq hD
  go_enter Try.func14, Try.ntmps14
  go_wp2_with (fail)
  rw [← hZ]
  clear hZ
  refine HJ.out.mono ?_
  rintro e w1 ⟨rfl, hb1⟩
  have HW : Hid (Below W.heap.size W w1 ∧ w1.heap[W.heap.size]? = some (.cells #[.int .i64 0, .int .i64 0] 31)) := ⟨HZ.out.1.trans (hb1.mono HZ.out.1.size), (hb1.block _ (ltOfQ HZ.out.2)).trans HZ.out.2⟩
  clear hb1 HZ HJ
  have z0 : w1.cell? ⟨W.heap.size, 0, none⟩ = some (.int .i64 0) := cellOfQ HW.out.2 0 rfl
  have z1 : w1.cell? ⟨W.heap.size, 1, none⟩ = some (.int .i64 0) := cellOfQ HW.out.2 1 rfl
  have zl := ltOfQ HW.out.2
  have f0 := frozOfQ HW.out.2 0
  have f1 := frozOfQ HW.out.2 1
  by_cases hJ0 : J = 0
  case neg =>
    have h1 : (J != 0) = true := by simpa using hJ0
    have HE : Hid (C = J ∧ D = 0) := HR.out.1 hJ0
    have HB : Hid (Below W.heap.size W w1) := HW.out.1
    clear HR HW HL HO
    go_wp2
    try simp only [Exit.inBlock, Exit.then]
    refine bodyPost_ret (by simp [results, Try.results14, go_sem, z0, z1, zl, f0, f1]; try rfl) rfl ⟨by rw [HE.out.1, HE.out.2], ?_⟩
    have hb := HB.out
    (repeat' (first | (with_reducible exact Below.refl _ _) | (with_reducible assumption) | (with_reducible refine Below.setCell ?_ ?_ _) | (with_reducible refine Below.alloc ?_ ?_ _) | (with_reducible refine below_drewN ?_ _) | (with_reducible refine Below.drew ?_) | (with_reducible exact Nat.le_refl _) | omega | (simp; done) | (simp; omega)))
  subst hJ0
  go_wp2_with (fail)
  refine (HO.out _ HW.out.1).mono ?_
  rintro e w2 ⟨rfl, hw2⟩
  subst w2
  clear HO
  cases q
  · have HE : Hid (C = 1 ∧ D = 0) := HR.out.2.1 trivial rfl
    have HB : Hid (Below W.heap.size W w1) := HW.out.1
    clear HR HW HL
    go_wp2
    try simp only [Exit.inBlock, Exit.then]
    refine bodyPost_ret (by simp [results, Try.results14, go_sem, z0, z1, zl, f0, f1]; try rfl) rfl ⟨by rw [HE.out.1, HE.out.2], ?_⟩
    have hb := HB.out
    (repeat' (first | (with_reducible exact Below.refl _ _) | (with_reducible assumption) | (with_reducible refine Below.setCell ?_ ?_ _) | (with_reducible refine Below.alloc ?_ ?_ _) | (with_reducible refine below_drewN ?_ _) | (with_reducible refine Below.drew ?_) | (with_reducible exact Nat.le_refl _) | omega | (simp; done) | (simp; omega)))
  have HE : Hid (C = 0) := HR.out.2.2 trivial rfl
  clear HR
  go_wp2_with (fail)
  refine (HL.out trivial trivial _ HW.out.1).mono ?_
  rintro e w2 ⟨rfl, hb2⟩
  have HW2 : Hid (Below W.heap.size W w2 ∧ w2.heap[W.heap.size]? = some (.cells #[.int .i64 0, .int .i64 0] 31)) := ⟨HW.out.1.trans (hb2.mono HW.out.1.size), (hb2.block _ (ltOfQ HW.out.2)).trans HW.out.2⟩
  clear HW hb2 HL z0 z1 zl f0 f1
  have z0 : w2.cell? ⟨W.heap.size, 0, none⟩ = some (.int .i64 0) := cellOfQ HW2.out.2 0 rfl
  have z1 : w2.cell? ⟨W.heap.size, 1, none⟩ = some (.int .i64 0) := cellOfQ HW2.out.2 1 rfl
  have zl := ltOfQ HW2.out.2
  have f0 := frozOfQ HW2.out.2 0
  have f1 := frozOfQ HW2.out.2 1
  have HB : Hid (Below W.heap.size W w2) := HW2.out.1
  clear HW2
  go_wp2
  try simp only [Exit.inBlock, Exit.then]
  refine bodyPost_ret (by simp [results, Try.results14, go_sem, z0, z1, zl, f0, f1]; try rfl) rfl ⟨by rw [HE.out], ?_⟩
  have hb := HB.out
  (repeat' (first | (with_reducible exact Below.refl _ _) | (with_reducible assumption) | (with_reducible refine Below.setCell ?_ ?_ _) | (with_reducible refine Below.alloc ?_ ?_ _) | (with_reducible refine below_drewN ?_ _) | (with_reducible refine Below.drew ?_) | (with_reducible exact Nat.le_refl _) | omega | (simp; done) | (simp; omega)))

set_option maxRecDepth 10000 in
set_option maxHeartbeats 3200000 in
theorem spec_fe {W : World} {a : Option Addr} {c : Nat} {vi : Value} {s : List Jb} {is : List Int} (hn : s.length ≤ 1048576) (hc : s.length ≤ c) (hi : is.length ≤ 1048576) (hs : RG 7 jbC W (.slice a s.length c) s) (hv : RdI W vi is) :
    Calls Try.prog 19 #[.slice a s.length c, vi] W fun e w' => e = .returned (.agg #[.int .i64 (joC s is), .int .i64 (floV (joL s is))]) ∧ Below W.heap.size W w' := by
  obtain ⟨Z, hZ⟩ : ∃ Z, Z = W.alloc (.cells #[.int .i64 0, .int .i64 0] 31) := ⟨_, rfl⟩
  obtain ⟨n, hnn⟩ : ∃ n, n = s.length := ⟨_, rfl⟩
  have HZ : Hid (Below W.heap.size W Z ∧ Z.heap[W.heap.size]? = some (.cells #[.int .i64 0, .int .i64 0] 31)) := by rw [hZ]; exact ⟨by (repeat' (first | (with_reducible exact Below.refl _ _) | (with_reducible assumption) | (with_reducible refine Below.setCell ?_ ?_ _) | (with_reducible refine Below.alloc ?_ ?_ _) | (with_reducible refine below_drewN ?_ _) | (with_reducible refine Below.drew ?_) | (with_reducible exact Nat.le_refl _) | omega | (simp; done) | (simp; omega))), heap_alloc_new _ _⟩
  obtain ⟨J, hJ⟩ : ∃ J, J = jbF s := ⟨_, rfl⟩
  obtain ⟨q, hq⟩ : ∃ J, J = ordB s is := ⟨_, rfl⟩
  obtain ⟨C, hC⟩ : ∃ C, C = joC s is := ⟨_, rfl⟩
  obtain ⟨L, hL⟩ : ∃ L, L = joL s is := ⟨_, rfl⟩
  obtain ⟨D, hD⟩ : ∃ D, D = floV L := ⟨_, rfl⟩
  have HJ : Hid (Calls Try.prog 10 #[.slice a n c] Z fun e w' => e = .returned (.int .i64 J) ∧ Below Z.heap.size Z w') := by rw [hJ, hnn]; exact spec_jf hn hc (hs.below HZ.out.1)
  have HO : Hid (∀ X, Below W.heap.size W X → Calls Try.prog 36 #[.slice a n c, vi] X fun e w' => e = .returned (.bool q) ∧ w' = X) := fun X hb => by rw [hq, hnn]; exact spec_ord hn hi (hs.below hb) (hv.below hb)
  have HL : Hid (J = 0 → q = true → ∀ X, Below W.heap.size W X → Calls Try.prog 40 #[.slice a n c, vi] X fun e w' => e = .returned (.int .i64 D) ∧ Below X.heap.size X w') := fun h1 h2 X hb => by
    rw [hJ] at h1; rw [hq] at h2
    have hok := jbF_ok h1
    obtain ⟨h3, h4⟩ := ordB_at h2
    rw [hD, hL, (joC_ok h1 h2).2, hnn]
    exact spec_flow hn (by rw [h3]; exact hok.len) (fun i hi => (h4 i hi).1) (pkL_ok hok fun i hi => (h4 i hi).1) (hs.below hb) (hv.below hb)
  have HR : Hid ((J ≠ 0 → C = J ∧ D = 0) ∧ (J = 0 → q = false → C = 1 ∧ D = 0) ∧ (J = 0 → q = true → C = 0)) := by
    rw [hC, hD, hL, hJ, hq]
    refine ⟨fun h => ⟨(joC_bad h).1, by rw [(joC_bad h).2]; rfl⟩, fun h h2 => ⟨(joC_no h h2).1, by rw [(joC_no h h2).2]; rfl⟩, fun h h2 => (joC_ok h h2).1⟩
  rw [← hL, ← hC, ← hD, ← hnn]
  clear hC hL hnn hs hv hn hi hc hJ hq hD
  go_enter Try.func19, Try.ntmps19
  go_wp2_with (fail)
  rw [← hZ]
  clear hZ
  refine HJ.out.mono ?_
  rintro e w1 ⟨rfl, hb1⟩
  have HW : Hid (Below W.heap.size W w1 ∧ w1.heap[W.heap.size]? = some (.cells #[.int .i64 0, .int .i64 0] 31)) := ⟨HZ.out.1.trans (hb1.mono HZ.out.1.size), (hb1.block _ (ltOfQ HZ.out.2)).trans HZ.out.2⟩
  clear hb1 HZ HJ
  have z0 : w1.cell? ⟨W.heap.size, 0, none⟩ = some (.int .i64 0) := cellOfQ HW.out.2 0 rfl
  have z1 : w1.cell? ⟨W.heap.size, 1, none⟩ = some (.int .i64 0) := cellOfQ HW.out.2 1 rfl
  have zl := ltOfQ HW.out.2
  have f0 := frozOfQ HW.out.2 0
  have f1 := frozOfQ HW.out.2 1
  by_cases hJ0 : J = 0
  case neg =>
    have h1 : (J != 0) = true := by simpa using hJ0
    have HE : Hid (C = J ∧ D = 0) := HR.out.1 hJ0
    have HB : Hid (Below W.heap.size W w1) := HW.out.1
    clear HR HW HL HO
    go_wp2
    try simp only [Exit.inBlock, Exit.then]
    refine bodyPost_ret (by simp [results, Try.results19, go_sem, z0, z1, zl, f0, f1]; try rfl) rfl ⟨by rw [HE.out.1, HE.out.2], ?_⟩
    have hb := HB.out
    (repeat' (first | (with_reducible exact Below.refl _ _) | (with_reducible assumption) | (with_reducible refine Below.setCell ?_ ?_ _) | (with_reducible refine Below.alloc ?_ ?_ _) | (with_reducible refine below_drewN ?_ _) | (with_reducible refine Below.drew ?_) | (with_reducible exact Nat.le_refl _) | omega | (simp; done) | (simp; omega)))
  subst hJ0
  go_wp2_with (fail)
  refine (HO.out _ HW.out.1).mono ?_
  rintro e w2 ⟨rfl, hw2⟩
  subst w2
  clear HO
  cases q
  · have HE : Hid (C = 1 ∧ D = 0) := HR.out.2.1 trivial rfl
    have HB : Hid (Below W.heap.size W w1) := HW.out.1
    clear HR HW HL
    go_wp2
    try simp only [Exit.inBlock, Exit.then]
    refine bodyPost_ret (by simp [results, Try.results19, go_sem, z0, z1, zl, f0, f1]; try rfl) rfl ⟨by rw [HE.out.1, HE.out.2], ?_⟩
    have hb := HB.out
    (repeat' (first | (with_reducible exact Below.refl _ _) | (with_reducible assumption) | (with_reducible refine Below.setCell ?_ ?_ _) | (with_reducible refine Below.alloc ?_ ?_ _) | (with_reducible refine below_drewN ?_ _) | (with_reducible refine Below.drew ?_) | (with_reducible exact Nat.le_refl _) | omega | (simp; done) | (simp; omega)))
  have HE : Hid (C = 0) := HR.out.2.2 trivial rfl
  clear HR
  go_wp2_with (fail)
  refine (HL.out trivial trivial _ HW.out.1).mono ?_
  rintro e w2 ⟨rfl, hb2⟩
  have HW2 : Hid (Below W.heap.size W w2 ∧ w2.heap[W.heap.size]? = some (.cells #[.int .i64 0, .int .i64 0] 31)) := ⟨HW.out.1.trans (hb2.mono HW.out.1.size), (hb2.block _ (ltOfQ HW.out.2)).trans HW.out.2⟩
  clear HW hb2 HL z0 z1 zl f0 f1
  have z0 : w2.cell? ⟨W.heap.size, 0, none⟩ = some (.int .i64 0) := cellOfQ HW2.out.2 0 rfl
  have z1 : w2.cell? ⟨W.heap.size, 1, none⟩ = some (.int .i64 0) := cellOfQ HW2.out.2 1 rfl
  have zl := ltOfQ HW2.out.2
  have f0 := frozOfQ HW2.out.2 0
  have f1 := frozOfQ HW2.out.2 1
  have HB : Hid (Below W.heap.size W w2) := HW2.out.1
  clear HW2
  go_wp2
  try simp only [Exit.inBlock, Exit.then]
  refine bodyPost_ret (by simp [results, Try.results19, go_sem, z0, z1, zl, f0, f1]; try rfl) rfl ⟨by rw [HE.out], ?_⟩
  have hb := HB.out
  (repeat' (first | (with_reducible exact Below.refl _ _) | (with_reducible assumption) | (with_reducible refine Below.setCell ?_ ?_ _) | (with_reducible refine Below.alloc ?_ ?_ _) | (with_reducible refine below_drewN ?_ _) | (with_reducible refine Below.drew ?_) | (with_reducible exact Nat.le_refl _) | omega | (simp; done) | (simp; omega)))

end Go.Proofs.Ytecobfhlpjlpkaa
