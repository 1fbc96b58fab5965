/- Proved here: LateOf and FlowEnd of the program. -/
import Derived.Test.YtecobfhlpjlpkaaDpI
import Derived.Test.YtecobfhlpjlpkaaDkI
import Derived.Test.YtecobfhlpjlpkaaDqM
namespace Go.Proofs.Ytecobfhlpjlpkaa
open Go.RowKit Go.Maps
set_option linter.unusedVariables false
set_option linter.unusedSimpArgs false


set_option maxRecDepth 10000 in
set_option maxHeartbeats 3200000 in
theorem impl_lo {W : World} {a : Option Addr} {c : Nat} {vi : Value} {s : List Jb} {is : List Int} (hn : s.length ≤ 1048576) (hc : s.length ≤ c) (hi : is.length ≤ 1048576) (hwf : ∀ i (h : i < s.length), (Lit.int .i64 s[i].id).wf = true) (hwi : ∀ i, i < is.length → (Lit.int .i64 (is.getD i 0)).wf = true) (hs : RG 7 jbC W (.slice a s.length c) s) (hv : RdI W vi is) :
    Calls Try.prog 16 #[.slice a s.length c, vi] W fun e w' => e = .returned (.agg #[.int .i64 (joC s is), .int .i64 (lateV (joL s is))]) ∧ Below W.heap.size W w' := by
  obtain ⟨Z, hZ⟩ : ∃ Z, Z = W.alloc (.cells #[.int .i64 0, .int .i64 0] 31) := ⟨_, rfl⟩
  obtain ⟨n, hnn⟩ : ∃ n, n = s.length := ⟨_, rfl⟩
  have HZ : Hid (Below W.heap.size W Z ∧ Z.heap[W.heap.size]? = some (.cells #[.int .i64 0, .int .i64 0] 31)) := by rw [hZ]; exact ⟨by (repeat' (first | (with_reducible exact Below.refl _ _) | (with_reducible assumption) | (with_reducible refine Below.setCell ?_ ?_ _) | (with_reducible refine Below.alloc ?_ ?_ _) | (with_reducible refine below_drewN ?_ _) | (with_reducible refine Below.drew ?_) | (with_reducible exact Nat.le_refl _) | omega | (simp; done) | (simp; omega))), heap_alloc_new _ _⟩
  have HJ := impl_jio (W := Z) hn hc hi hwf hwi (hs.below HZ.out.1) (hv.below HZ.out.1)
  obtain ⟨C, hC⟩ : ∃ C, C = joC s is := ⟨_, rfl⟩
  obtain ⟨L, hL⟩ : ∃ L, L = joL s is := ⟨_, rfl⟩
  rw [← hC, ← hL, ← hnn] at HJ
  have HH : Hid (Calls Try.prog 38 #[.slice a n c, vi] Z fun e w' => ∃ v, e = .returned (.tuple #[v, .int .i64 C]) ∧ OG 48 7 jbC w' Z.heap.size v L ∧ Below Z.heap.size Z w') := HJ
  have HCL : Hid ((C ≠ 0 → L = []) ∧ (C = 0 → L.length ≤ 30 ∧ ∀ i (hi : i < L.length), rgJ L[i])) := by rw [hC, hL]; exact ⟨joL_bad, joL_ok⟩
  have HV : Hid (lateV [] = 0) := rfl
  rw [← hC, ← hL, ← hnn]
  clear HJ hC hL hnn hs hv hwf hwi hn hi hc
  go_enter Try.func16, Try.ntmps16
  go_wp2_with (fail)
  rw [← hZ]
  clear hZ
  refine HH.out.mono ?_
  rintro e w1 ⟨v, rfl, hog, hb1⟩
  obtain ⟨va, vc, hvv⟩ := hog.fm
  obtain ⟨m, hm⟩ : ∃ m, m = L.length := ⟨_, rfl⟩
  rw [← hm] at hvv
  subst hvv
  have HW : Hid (Below W.heap.size W w1 ∧ w1.heap[W.heap.size]? = some (.cells #[.int .i64 0, .int .i64 0] 31)) := ⟨HZ.out.1.trans (hb1.mono HZ.out.1.size), (hb1.block _ (ltOfQ HZ.out.2)).trans HZ.out.2⟩
  have HO : Hid (RG 7 jbC w1 (.slice va m vc) L) := OG.rg jbC_len hog
  clear hog hb1 HZ HH hm
  have z0 : w1.cell? ⟨W.heap.size, 0, none⟩ = some (.int .i64 0) := cellOfQ HW.out.2 0 rfl
  have z1 : w1.cell? ⟨W.heap.size, 1, none⟩ = some (.int .i64 0) := cellOfQ HW.out.2 1 rfl
  have zl := ltOfQ HW.out.2
  have f0 := frozOfQ HW.out.2 0
  have f1 := frozOfQ HW.out.2 1
  by_cases hC0 : C = 0
  case neg =>
    have h1 : (C != 0) = true := by simpa using hC0
    have HR : Hid (L = []) := HCL.out.1 hC0
    have HB : Hid (Below W.heap.size W w1) := HW.out.1
    clear HCL HW HO
    go_wp2
    try simp only [Exit.inBlock, Exit.then]
    refine bodyPost_ret (by simp [results, Try.results16, go_sem, z0, z1, zl, f0, f1]; try rfl) rfl ⟨by rw [HR.out, HV.out], ?_⟩
    have hb := HB.out
    (repeat' (first | (with_reducible exact Below.refl _ _) | (with_reducible assumption) | (with_reducible refine Below.setCell ?_ ?_ _) | (with_reducible refine Below.alloc ?_ ?_ _) | (with_reducible refine below_drewN ?_ _) | (with_reducible refine Below.drew ?_) | (with_reducible exact Nat.le_refl _) | omega | (simp; done) | (simp; omega)))
  subst hC0
  have HK : Hid (Calls Try.prog 39 #[.slice va m vc] w1 fun e w' => e = .returned (.int .i64 (lateV L)) ∧ Below w1.heap.size w1 w') := impl_late (HCL.out.2 rfl).1 (HCL.out.2 rfl).2 HO.out
  clear HCL HO
  go_wp2_with (fail)
  refine HK.out.mono ?_
  rintro e w2 ⟨rfl, hb2⟩
  have HW2 : Hid (Below W.heap.size W w2 ∧ w2.heap[W.heap.size]? = some (.cells #[.int .i64 0, .int .i64 0] 31)) := ⟨HW.out.1.trans (hb2.mono HW.out.1.size), (hb2.block _ (ltOfQ HW.out.2)).trans HW.out.2⟩
  clear HW hb2 HK z0 z1 zl f0 f1
  have z0 : w2.cell? ⟨W.heap.size, 0, none⟩ = some (.int .i64 0) := cellOfQ HW2.out.2 0 rfl
  have z1 : w2.cell? ⟨W.heap.size, 1, none⟩ = some (.int .i64 0) := cellOfQ HW2.out.2 1 rfl
  have zl := ltOfQ HW2.out.2
  have f0 := frozOfQ HW2.out.2 0
  have f1 := frozOfQ HW2.out.2 1
  have HB : Hid (Below W.heap.size W w2) := HW2.out.1
  clear HW2
  go_wp2
  try simp only [Exit.inBlock, Exit.then]
  refine bodyPost_ret (by simp [results, Try.results16, go_sem, z0, z1, zl, f0, f1]; try rfl) rfl ⟨rfl, ?_⟩
  have hb := HB.out
  (repeat' (first | (with_reducible exact Below.refl _ _) | (with_reducible assumption) | (with_reducible refine Below.setCell ?_ ?_ _) | (with_reducible refine Below.alloc ?_ ?_ _) | (with_reducible refine below_drewN ?_ _) | (with_reducible refine Below.drew ?_) | (with_reducible exact Nat.le_refl _) | omega | (simp; done) | (simp; omega)))

set_option maxRecDepth 10000 in
set_option maxHeartbeats 3200000 in
theorem impl_fe {W : World} {a : Option Addr} {c : Nat} {vi : Value} {s : List Jb} {is : List Int} (hn : s.length ≤ 1048576) (hc : s.length ≤ c) (hi : is.length ≤ 1048576) (hwf : ∀ i (h : i < s.length), (Lit.int .i64 s[i].id).wf = true) (hwi : ∀ i, i < is.length → (Lit.int .i64 (is.getD i 0)).wf = true) (hs : RG 7 jbC W (.slice a s.length c) s) (hv : RdI W vi is) :
    Calls Try.prog 20 #[.slice a s.length c, vi] W fun e w' => e = .returned (.agg #[.int .i64 (joC s is), .int .i64 (floV (joL s is))]) ∧ Below W.heap.size W w' := by
  obtain ⟨Z, hZ⟩ : ∃ Z, Z = W.alloc (.cells #[.int .i64 0, .int .i64 0] 31) := ⟨_, rfl⟩
  obtain ⟨n, hnn⟩ : ∃ n, n = s.length := ⟨_, rfl⟩
  have HZ : Hid (Below W.heap.size W Z ∧ Z.heap[W.heap.size]? = some (.cells #[.int .i64 0, .int .i64 0] 31)) := by rw [hZ]; exact ⟨by (repeat' (first | (with_reducible exact Below.refl _ _) | (with_reducible assumption) | (with_reducible refine Below.setCell ?_ ?_ _) | (with_reducible refine Below.alloc ?_ ?_ _) | (with_reducible refine below_drewN ?_ _) | (with_reducible refine Below.drew ?_) | (with_reducible exact Nat.le_refl _) | omega | (simp; done) | (simp; omega))), heap_alloc_new _ _⟩
  have HJ := impl_jio (W := Z) hn hc hi hwf hwi (hs.below HZ.out.1) (hv.below HZ.out.1)
  obtain ⟨C, hC⟩ : ∃ C, C = joC s is := ⟨_, rfl⟩
  obtain ⟨L, hL⟩ : ∃ L, L = joL s is := ⟨_, rfl⟩
  rw [← hC, ← hL, ← hnn] at HJ
  have HH : Hid (Calls Try.prog 38 #[.slice a n c, vi] Z fun e w' => ∃ v, e = .returned (.tuple #[v, .int .i64 C]) ∧ OG 48 7 jbC w' Z.heap.size v L ∧ Below Z.heap.size Z w') := HJ
  have HCL : Hid ((C ≠ 0 → L = []) ∧ (C = 0 → L.length ≤ 30 ∧ ∀ i (hi : i < L.length), rgJ L[i])) := by rw [hC, hL]; exact ⟨joL_bad, joL_ok⟩
  have HV : Hid (floV [] = 0) := rfl
  rw [← hC, ← hL, ← hnn]
  clear HJ hC hL hnn hs hv hwf hwi hn hi hc
  go_enter Try.func20, Try.ntmps20
  go_wp2_with (fail)
  rw [← hZ]
  clear hZ
  refine HH.out.mono ?_
  rintro e w1 ⟨v, rfl, hog, hb1⟩
  obtain ⟨va, vc, hvv⟩ := hog.fm
  obtain ⟨m, hm⟩ : ∃ m, m = L.length := ⟨_, rfl⟩
  rw [← hm] at hvv
  subst hvv
  have HW : Hid (Below W.heap.size W w1 ∧ w1.heap[W.heap.size]? = some (.cells #[.int .i64 0, .int .i64 0] 31)) := ⟨HZ.out.1.trans (hb1.mono HZ.out.1.size), (hb1.block _ (ltOfQ HZ.out.2)).trans HZ.out.2⟩
  have HO : Hid (RG 7 jbC w1 (.slice va m vc) L) := OG.rg jbC_len hog
  clear hog hb1 HZ HH hm
  have z0 : w1.cell? ⟨W.heap.size, 0, none⟩ = some (.int .i64 0) := cellOfQ HW.out.2 0 rfl
  have z1 : w1.cell? ⟨W.heap.size, 1, none⟩ = some (.int .i64 0) := cellOfQ HW.out.2 1 rfl
  have zl := ltOfQ HW.out.2
  have f0 := frozOfQ HW.out.2 0
  have f1 := frozOfQ HW.out.2 1
  by_cases hC0 : C = 0
  case neg =>
    have h1 : (C != 0) = true := by simpa using hC0
    have HR : Hid (L = []) := HCL.out.1 hC0
    have HB : Hid (Below W.heap.size W w1) := HW.out.1
    clear HCL HW HO
    go_wp2
    try simp only [Exit.inBlock, Exit.then]
    refine bodyPost_ret (by simp [results, Try.results20, go_sem, z0, z1, zl, f0, f1]; try rfl) rfl ⟨by rw [HR.out, HV.out], ?_⟩
    have hb := HB.out
    (repeat' (first | (with_reducible exact Below.refl _ _) | (with_reducible assumption) | (with_reducible refine Below.setCell ?_ ?_ _) | (with_reducible refine Below.alloc ?_ ?_ _) | (with_reducible refine below_drewN ?_ _) | (with_reducible refine Below.drew ?_) | (with_reducible exact Nat.le_refl _) | omega | (simp; done) | (simp; omega)))
  subst hC0
  have HK : Hid (Calls Try.prog 41 #[.slice va m vc] w1 fun e w' => e = .returned (.int .i64 (floV L)) ∧ Below w1.heap.size w1 w') := impl_flow (HCL.out.2 rfl).1 (HCL.out.2 rfl).2 HO.out
  clear HCL HO
  go_wp2_with (fail)
  refine HK.out.mono ?_
  rintro e w2 ⟨rfl, hb2⟩
  have HW2 : Hid (Below W.heap.size W w2 ∧ w2.heap[W.heap.size]? = some (.cells #[.int .i64 0, .int .i64 0] 31)) := ⟨HW.out.1.trans (hb2.mono HW.out.1.size), (hb2.block _ (ltOfQ HW.out.2)).trans HW.out.2⟩
  clear HW hb2 HK z0 z1 zl f0 f1
  have z0 : w2.cell? ⟨W.heap.size, 0, none⟩ = some (.int .i64 0) := cellOfQ HW2.out.2 0 rfl
  have z1 : w2.cell? ⟨W.heap.size, 1, none⟩ = some (.int .i64 0) := cellOfQ HW2.out.2 1 rfl
  have zl := ltOfQ HW2.out.2
  have f0 := frozOfQ HW2.out.2 0
  have f1 := frozOfQ HW2.out.2 1
  have HB : Hid (Below W.heap.size W w2) := HW2.out.1
  clear HW2
  go_wp2
  try simp only [Exit.inBlock, Exit.then]
  refine bodyPost_ret (by simp [results, Try.results20, go_sem, z0, z1, zl, f0, f1]; try rfl) rfl ⟨rfl, ?_⟩
  have hb := HB.out
  (repeat' (first | (with_reducible exact Below.refl _ _) | (with_reducible assumption) | (with_reducible refine Below.setCell ?_ ?_ _) | (with_reducible refine Below.alloc ?_ ?_ _) | (with_reducible refine below_drewN ?_ _) | (with_reducible refine Below.drew ?_) | (with_reducible exact Nat.le_refl _) | omega | (simp; done) | (simp; omega)))

end Go.Proofs.Ytecobfhlpjlpkaa
