/- Proved here: PickJob of the program: pjC, pjV. -/
import Derived.Test.YtecobfhlpjlpkaaPjJ
namespace Go.Proofs.Ytecobfhlpjlpkaa
open Go.RowKit
set_option linter.unusedVariables false
set_option linter.unusedSimpArgs false


theorem impl_pk (rule now : Int) (hr : 1 ≤ rule ∧ rule ≤ 4) {W : World} {a : Option Addr} {c : Nat} {l : List Jb} (hn : l.length ≤ 39) (hpos : 0 < l.length) (hnc : NCj a l.length c) (hs : RG 7 jbC W (.slice a l.length c) l) :
    Calls Try.prog 46 #[.slice a l.length c, .int .i64 rule, .int .i64 now] W fun e w' => ∃ j : Jb, j = jA (stbF (orC rule now) l.length l) 0 ∧ e = .returned (.agg #[.int .i64 j.id, .int .i64 j.co, .int .i64 j.ti, .int .i64 j.se, .int .i64 j.du, .int .i64 j.we, .int .i64 j.ki]) ∧ Below W.heap.size W w' := by
  rcases (by omega : rule = 1 ∨ rule = 2 ∨ rule = 3 ∨ rule = 4) with rfl | rfl | rfl | rfl
  · exact pick_1 now hn hpos hnc hs
  · exact pick_2 now hn hpos hnc hs
  · exact pick_3 now hn hpos hnc hs
  · exact pick_4 now hn hpos hnc hs
theorem pfC_zero {s : List Jb} {rule now : Int} (h : pfC s rule now = 0) : jbF s = 0 ∧ (1 ≤ rule ∧ rule ≤ 4) ∧ (0 ≤ now ∧ now ≤ 1000000000) := by
  unfold pfC at h
  by_cases h1 : jbF s = 0
  · rw [if_neg (fun e => e h1)] at h
    by_cases h2 : 1 ≤ rule ∧ rule ≤ 4
    · rw [if_neg (fun e => e h2)] at h
      by_cases h3 : 0 ≤ now ∧ now ≤ 1000000000
      · exact ⟨h1, h2, h3⟩
      · rw [if_pos h3] at h; cases h
    · rw [if_pos h2] at h; cases h
  · rw [if_pos h1] at h; exact absurd h h1
set_option maxRecDepth 10000 in
set_option maxHeartbeats 6400000 in
theorem impl_pj (rule now : Int) {W : World} {a : Option Addr} {c : Nat} {s : List Jb} (hn : s.length ≤ 1048576) (hc : s.length ≤ c) (hs : RG 7 jbC W (.slice a s.length c) s) :
    Calls Try.prog 22 #[.slice a s.length c, .int .i64 rule, .int .i64 now] W fun e w' => e = .returned (.agg #[.int .i64 (pjC s rule now), .int .i64 (pjV s rule now)]) ∧ Below W.heap.size W w' := by
  obtain ⟨Z, hZ⟩ : ∃ Z, Z = W.alloc (.cells #[.int .i64 0, .int .i64 0] 31) := ⟨_, rfl⟩
  obtain ⟨n, hnn⟩ : ∃ n, n = s.length := ⟨_, rfl⟩
  have HZ : Hid (Below W.heap.size W Z ∧ Z.heap[W.heap.size]? = some (.cells #[.int .i64 0, .int .i64 0] 31)) := by rw [hZ]; exact ⟨by (repeat' (first | (with_reducible exact Below.refl _ _) | (with_reducible assumption) | (with_reducible refine Below.setCell ?_ ?_ _) | (with_reducible refine Below.alloc ?_ ?_ _) | (with_reducible refine below_drewN ?_ _) | (with_reducible refine Below.drew ?_) | (with_reducible exact Nat.le_refl _) | omega | (simp; done) | (simp; omega))), heap_alloc_new _ _⟩
  obtain ⟨P, hP⟩ : ∃ P, P = pfC s rule now := ⟨_, rfl⟩
  obtain ⟨C, hC⟩ : ∃ C, C = pjC s rule now := ⟨_, rfl⟩
  obtain ⟨V, hV⟩ : ∃ V, V = pjV s rule now := ⟨_, rfl⟩
  have HP : Hid (Calls Try.prog 44 #[.slice a n c, .int .i64 rule, .int .i64 now] Z fun e w' => e = .returned (.int .i64 P) ∧ Below Z.heap.size Z w') := by rw [hP, hnn]; exact impl_pkf rule now hn hc (hs.below HZ.out.1)
  have HS : Hid (RG 7 jbC W (.slice a n c) s ∧ n = s.length ∧ P = pfC s rule now ∧ C = pjC s rule now ∧ V = pjV s rule now) := ⟨by rw [hnn]; exact hs, hnn, hP, hC, hV⟩
  rw [← hC, ← hV, ← hnn]
  clear hP hC hV hnn hs hn hc
  go_enter Try.func22, Try.ntmps22
  go_wp2_with (fail)
  rw [← hZ]
  clear hZ
  refine HP.out.mono ?_
  rintro e w1 ⟨rfl, hb1⟩
  have HW : Hid (Below W.heap.size W w1 ∧ w1.heap[W.heap.size]? = some (.cells #[.int .i64 0, .int .i64 0] 31)) := ⟨HZ.out.1.trans (hb1.mono HZ.out.1.size), (hb1.block _ (ltOfQ HZ.out.2)).trans HZ.out.2⟩
  clear hb1 HZ HP
  have z0 : w1.cell? ⟨W.heap.size, 0, none⟩ = some (.int .i64 0) := cellOfQ HW.out.2 0 rfl
  have z1 : w1.cell? ⟨W.heap.size, 1, none⟩ = some (.int .i64 0) := cellOfQ HW.out.2 1 rfl
  have zl := ltOfQ HW.out.2
  have f0 := frozOfQ HW.out.2 0
  have f1 := frozOfQ HW.out.2 1
  by_cases hP0 : P = 0
  case neg =>
    have h1 : (P != 0) = true := by simpa using hP0
    have HE : Hid (C = P ∧ V = 0) := by
      refine ⟨?_, ?_⟩
      · rw [HS.out.2.2.2.1, pjC, ← HS.out.2.2.1, if_pos hP0]
      · rw [HS.out.2.2.2.2, pjV, ← HS.out.2.2.1, if_pos hP0]
    have HB : Hid (Below W.heap.size W w1) := HW.out.1
    clear HS HW
    go_wp2
    try simp only [Exit.inBlock, Exit.then]
    refine bodyPost_ret (by simp [results, Try.results22, go_sem, z0, z1, zl, f0, f1]; try rfl) rfl ⟨by rw [HE.out.1, HE.out.2], ?_⟩
    have hb := HB.out
    {{(repeat' (first | (with_reducible exact Below.refl _ _) | (with_reducible assumption) | (with_reducible refine Below.setCell ?_ ?_ _) | (with_reducible refine Below.alloc ?_ ?_ _) | (with_reducible refine below_drewN ?_ _) | (with_reducible refine Below.drew ?_) | (with_reducible exact Nat.le_refl _) | omega | (simp; done) | (simp; omega)))}}
  obtain ⟨hj0, hr0, hw0⟩ := pfC_zero (HS.out.2.2.1.symm.trans hP0)
  have hok := jbF_ok hj0
  have hn30 : n ≤ 30 := by rw [HS.out.2.1]; exact hok.len
  have HCA : Hid (Calls Try.prog 45 #[.slice a n c, .int .i64 now] w1 fun e w' => ∃ v', e = .returned v' ∧ OG 48 7 jbC w' w1.heap.size v' (comF now s) ∧ Below w1.heap.size w1 w') := impl_ca now (by rw [← HS.out.2.1]; exact hn30) (HS.out.1.below HW.out.1)
  have HCV : Hid ((comF now s = [] → C = 4 ∧ V = 0) ∧ (comF now s ≠ [] → ∀ j : Jb, j = jA (stbF (orC rule now) (comF now s).length (comF now s)) 0 → C = 0 ∧ V = j.id)) := by
    unfold Hid
    have hPn : ¬ pfC s rule now ≠ 0 := fun e => e (HS.out.2.2.1.symm.trans hP0)
    refine ⟨fun h => ?_, fun h j hj => ?_⟩
    · have h9 := (comF_nil (c := orC rule now)).1 h
      refine ⟨?_, ?_⟩
      · rw [HS.out.2.2.2.1, pjC, if_neg hPn, h9]; rfl
      · rw [HS.out.2.2.2.2, pjV, if_neg hPn, h9]; rfl
    · cases h9 : bst (orC rule now) now s s.length with
      | none => exact absurd ((comF_nil (c := orC rule now)).2 h9) h
      | some b =>
        refine ⟨?_, ?_⟩
        · rw [HS.out.2.2.2.1, pjC, if_neg hPn, h9]; rfl
        · rw [HS.out.2.2.2.2, pjV, if_neg hPn, h9, hj, (first_is hok hw0 h9).1]; rfl
  have hm30 : (comF now s).length ≤ 30 := by have := comF_len now s; have := HS.out.2.1; omega
  subst hP0
  clear hj0 hok HS
  go_wp2_with (fail)
  refine HCA.out.mono ?_
  rintro e w2 ⟨v, rfl, ho, hb2⟩
  obtain ⟨va, vc, hvv⟩ := ho.fm
  obtain ⟨m, hm⟩ : ∃ m, m = (comF now s).length := ⟨_, rfl⟩
  rw [← hm] at hvv
  subst hvv
  have HW2 : Hid (Below W.heap.size W w2 ∧ w2.heap[W.heap.size]? = some (.cells #[.int .i64 0, .int .i64 0] 31) ∧ OG 48 7 jbC w2 w1.heap.size (.slice va m vc) (comF now s) ∧ m = (comF now s).length) := ⟨HW.out.1.trans (hb2.mono HW.out.1.size), (hb2.block _ (ltOfQ HW.out.2)).trans HW.out.2, ho, hm⟩
  clear HCA HW ho hb2 z0 z1 zl f0 f1
  have z0 : w2.cell? ⟨W.heap.size, 0, none⟩ = some (.int .i64 0) := cellOfQ HW2.out.2.1 0 rfl
  have z1 : w2.cell? ⟨W.heap.size, 1, none⟩ = some (.int .i64 0) := cellOfQ HW2.out.2.1 1 rfl
  have zl := ltOfQ HW2.out.2.1
  have f0 := frozOfQ HW2.out.2.1 0
  have f1 := frozOfQ HW2.out.2.1 1
  by_cases hm0 : m = 0
  · have HE : Hid (C = 4 ∧ V = 0) := HCV.out.1 (List.eq_nil_of_length_eq_zero (by rw [← hm]; exact hm0))
    have h1 : (m : Int) = 0 := by omega
    have HB : Hid (Below W.heap.size W w2) := HW2.out.1
    clear HCV HW2 hm
    subst hm0
    go_wp2
    try simp only [Exit.inBlock, Exit.then]
    refine bodyPost_ret (by simp [results, Try.results22, go_sem, z0, z1, zl, f0, f1]; try rfl) rfl ⟨by rw [HE.out.1, HE.out.2], ?_⟩
    have hb := HB.out
    {{(repeat' (first | (with_reducible exact Below.refl _ _) | (with_reducible assumption) | (with_reducible refine Below.setCell ?_ ?_ _) | (with_reducible refine Below.alloc ?_ ?_ _) | (with_reducible refine below_drewN ?_ _) | (with_reducible refine Below.drew ?_) | (with_reducible exact Nat.le_refl _) | omega | (simp; done) | (simp; omega)))}}
  · have h1 : ¬ (m : Int) = 0 := by omega
    have h2 : ((m : Int) == 0) = false := by simpa using h1
    have HPK : Hid (Calls Try.prog 46 #[.slice va m vc, .int .i64 rule, .int .i64 now] w2 fun e w' => ∃ j : Jb, (C = 0 ∧ V = j.id) ∧ e = .returned (.agg #[.int .i64 j.id, .int .i64 j.co, .int .i64 j.ti, .int .i64 j.se, .int .i64 j.du, .int .i64 j.we, .int .i64 j.ki]) ∧ Below w2.heap.size w2 w') := by
      have hmm := HW2.out.2.2.2
      have := impl_pk rule now hr0 (l := comF now s) (a := va) (c := vc) (W := w2) (by omega) (by omega) (by rw [← hmm]; exact OG.ncj HW2.out.2.2.1) (by rw [← hmm]; exact OG.rg jbC_len HW2.out.2.2.1)
      rw [← hmm] at this
      refine this.mono ?_
      rintro e w' ⟨j, hj, h5, h6⟩
      exact ⟨j, HCV.out.2 (fun e => by rw [e] at hmm; exact hm0 hmm) j (by rw [← hmm]; exact hj), h5, h6⟩
    clear HCV hm
    go_wp2_with (fail)
    refine HPK.out.mono ?_
    rintro e w3 ⟨j, ⟨hc0, hv0⟩, rfl, hb3⟩
    have HW3 : Hid (Below W.heap.size W w3 ∧ w3.heap[W.heap.size]? = some (.cells #[.int .i64 0, .int .i64 0] 31)) := ⟨HW2.out.1.trans (hb3.mono HW2.out.1.size), (hb3.block _ (ltOfQ HW2.out.2.1)).trans HW2.out.2.1⟩
    have HE : Hid (C = 0 ∧ V = j.id) := ⟨hc0, hv0⟩
    clear HPK HW2 hb3 z0 z1 zl f0 f1 hc0 hv0
    have z0 : w3.cell? ⟨W.heap.size, 0, none⟩ = some (.int .i64 0) := cellOfQ HW3.out.2 0 rfl
    have z1 : w3.cell? ⟨W.heap.size, 1, none⟩ = some (.int .i64 0) := cellOfQ HW3.out.2 1 rfl
    have zl := ltOfQ HW3.out.2
    have f0 := frozOfQ HW3.out.2 0
    have f1 := frozOfQ HW3.out.2 1
    have HB : Hid (Below W.heap.size W w3) := HW3.out.1
    have hfd : ∀ w : World, (Instr.field 48 (.agg #[.int .i64 j.id, .int .i64 j.co, .int .i64 j.ti, .int .i64 j.se, .int .i64 j.du, .int .i64 j.we, .int .i64 j.ki]) 0).run Try.prog w = .ok (.int .i64 j.id) w := fun _ => by kernel_rfl
    clear HW3
    go_wp2
    try simp only [Exit.inBlock, Exit.then]
    refine bodyPost_ret (by simp [results, Try.results22, go_sem, z0, z1, zl, f0, f1]; try rfl) rfl ⟨by rw [HE.out.1, HE.out.2], ?_⟩
    have hb := HB.out
    {{(repeat' (first | (with_reducible exact Below.refl _ _) | (with_reducible assumption) | (with_reducible refine Below.setCell ?_ ?_ _) | (with_reducible refine Below.alloc ?_ ?_ _) | (with_reducible refine below_drewN ?_ _) | (with_reducible refine Below.drew ?_) | (with_reducible exact Nat.le_refl _) | omega | (simp; done) | (simp; omega)))}}

end Go.Proofs.Ytecobfhlpjlpkaa
