/- Proved here: slices.Clone of a list of numbers that is not nil; a fleet copied, of the program. -/
import Derived.Test.YtgbbigokbbllgaaCpA
import Derived.Test.YtgbbigokbbllgaaS2B
import Derived.Test.YtgbbigokbbllgaaReg
import Derived.Deep.Cut
namespace Go.Proofs.Ytgbbigokbbllgaa
open Go.RowKit
set_option linter.unusedVariables false
set_option linter.unusedSimpArgs false

set_option maxRecDepth 10000 in
set_option maxHeartbeats 1600000 in
theorem cl_some {w : World} {g o cap : Nat} {s : List Int} (hn : s.length ≤ 1048576) (h : RdI w (.slice (some ⟨g, o, none⟩) s.length cap) s) :
    Calls Try.prog 62 #[.slice (some ⟨g, o, none⟩) s.length cap] w fun e w' => ∃ v', e = .returned v' ∧ IS w' w.heap.size v' s ∧ Below w.heap.size w w' := by
  obtain ⟨i0, hi, hz0, hz1, hz2⟩ := info_parts info_i64
  have qT : ∀ (w : World) (a : Option Addr) (n c : Nat), (binOp .eql 22 (.slice a n c) (.slice none 0 0)).run Try.prog w = .ok (.bool a.isNone) w := fun w a n c => Lib.run_eql_slice_nil w _ _ a n c 0 0 Try.underlying22
  obtain ⟨n, hnn⟩ : ∃ n, n = s.length := ⟨_, rfl⟩
  rw [← hnn] at hn h ⊢
  have H : Hid ((∀ j u, (s.map (Value.int .i64))[j]? = some u → (w.alloc (.cells #[] 2)).cell? ((⟨g, o, none⟩ : Addr).add j) = some u) ∧ n = s.length) := ⟨row_news (RG.below h (by (repeat' (first | (with_reducible exact Below.refl _ _) | (with_reducible assumption) | (with_reducible refine Below.setCell ?_ ?_ _) | (with_reducible refine Below.alloc ?_ ?_ _) | (with_reducible refine below_drewN ?_ _) | (with_reducible refine Below.drew ?_) | (with_reducible exact Nat.le_refl _) | omega | (simp; done) | (simp; omega))))), hnn⟩
  clear hnn h
  go_enter Try.func62, Try.ntmps62
  go_wp2_with (at_builtin; (refine wpList_append_own _ rfl _ _ 22 rfl w.heap.size 2 i0 (.int .i64 0) 1 8 Try.underlying22 hi hz0 hz1 hz2 rfl (by decide) (.slice (some ⟨w.heap.size, 0, none⟩) 0 0) 0 [] rfl (is_lit0 w _ (Nat.le_refl _)) ⟨g, o, none⟩ n cap (s.map (Value.int .i64)) rfl (by rw [H.out.2]; simp) H.out.1 (ones_int _) (by unfold maxLen; omega) (by omega) (by simp) ?_; intro v1 w1 hown1 hgrow1 hnil1))
  have R : Hid (IS w1 w.heap.size v1 s ∧ Below w.heap.size w w1) := by
    refine ⟨?_, ((Below.refl _ _).alloc (Nat.le_refl _) _).grown hgrow1 (by simp) (fun j hj => by cases hj; exact Nat.le_refl _)⟩
    rw [H.out.2] at hown1
    unfold IS
    simpa using hown1
  clear hown1 hgrow1 hnil1
  go_returns
  exact ⟨_, rfl, R.out.1, R.out.2⟩
theorem set_three20 {w : World} {k : Nat} {a b c a' b' c' : Value} {T : TypeId} (h : w.heap[k]? = some (.cells #[a, b, c] T)) : (w.setCells k 0 [a', b', c']).heap[k]? = some (.cells #[a', b', c'] T) := by
  have s0 := heap_setCell_same _ _ 0 _ _ a' h
  have s1 := heap_setCell_same _ _ 1 _ _ b' s0
  have s2 := heap_setCell_same _ _ 2 _ _ c' s1
  simpa [World.setCells] using s2
theorem there_nF {w : World} {k m : Nat} {cs : Array Value} {T : TypeId} (h : w.heap[k]? = some (.cells cs T)) (hm : m = cs.size) : w.there k 0 m := by
  intro j hj
  have hj2 : j < cs.size := by rw [← hm]; exact hj
  simp [World.cell?, World.frozen?, h, hj2]
theorem setCells_off20 (w : World) (k : Nat) {q : Nat} (h : q ≠ k) : ∀ (vs : List Value) (o : Nat), (w.setCells k o vs).heap[q]? = w.heap[q]? := by
  intro vs
  induction vs generalizing w with
  | nil => intro o; rfl
  | cons v r ih => intro o; rw [World.setCells, ih, heap_setCell_other _ _ _ _ (by simpa using h)]

set_option maxRecDepth 10000 in
set_option maxHeartbeats 6400000 in
theorem impl_cop (Z : Int) {w : World} {ga oa c gb ob d : Nat} {s t : List Int} (hn : s.length ≤ 1048576 ∧ t.length ≤ 1048576) (h : RdL w (.slice (some ⟨ga, oa, none⟩) s.length c) (.slice (some ⟨gb, ob, none⟩) t.length d) s t) :
    Calls Try.prog 54 #[.agg #[.int .i64 Z, .slice (some ⟨ga, oa, none⟩) s.length c, .slice (some ⟨gb, ob, none⟩) t.length d]] w fun e w' => ∃ v1 v2, e = .returned (.agg #[.int .i64 Z, v1, v2]) ∧ OwL w' w.heap.size v1 v2 s t ∧ Below w.heap.size w w' := by
  obtain ⟨n, hnn⟩ : ∃ n, n = s.length := ⟨_, rfl⟩
  obtain ⟨m, hmm⟩ : ∃ n, n = t.length := ⟨_, rfl⟩
  have HA : Hid (∀ W, Below w.heap.size w W → Calls Try.prog 62 #[.slice (some ⟨ga, oa, none⟩) n c] W fun e w' => ∃ v', e = .returned v' ∧ IS w' W.heap.size v' s ∧ Below W.heap.size W w') := fun W hb => by rw [hnn]; exact cl_some hn.1 (h.1.below hb)
  have HC : Hid (∀ W, Below w.heap.size w W → Calls Try.prog 62 #[.slice (some ⟨gb, ob, none⟩) m d] W fun e w' => ∃ v', e = .returned v' ∧ IS w' W.heap.size v' t ∧ Below W.heap.size W w') := fun W hb => by rw [hmm]; exact cl_some hn.2 (h.2.below hb)
  rw [← hnn, ← hmm]
  have HS : Hid (S2 w (.cells #[.int .i64 Z, .slice (some ⟨ga, oa, none⟩) n c, .slice (some ⟨gb, ob, none⟩) m d] 45) (.cells #[.int .i64 0, .slice none 0 0, .slice none 0 0] 45) ((w.alloc (.cells #[.int .i64 Z, .slice (some ⟨ga, oa, none⟩) n c, .slice (some ⟨gb, ob, none⟩) m d] 45)).alloc (.cells #[.int .i64 0, .slice none 0 0, .slice none 0 0] 45))) := S2.new _ _ _
  have HN : Hid (n = s.length ∧ m = t.length) := ⟨hnn, hmm⟩
  clear h hnn hmm hn
  obtain ⟨V, hV⟩ : ∃ X9, X9 = (w.alloc (.cells #[.int .i64 Z, .slice (some ⟨ga, oa, none⟩) n c, .slice (some ⟨gb, ob, none⟩) m d] 45)).alloc (.cells #[.int .i64 0, .slice none 0 0, .slice none 0 0] 45) := ⟨_, rfl⟩
  rw [← hV] at HS
  obtain ⟨p0, p1, p2, pf, pl⟩ := tw_three HS.out.b0
  have hVs : w.heap.size + 1 < V.heap.size := ltOf HS.out.b1
  have b9 : w.heap.size < w.heap.size + 1 := by omega
  clear pf
  go_enter Try.func54, Try.ntmps54
  go_upto_region 1 with fail
  rw [← hV]
  clear hV
  refine wp_region_holdsA (S := KA (w.heap.size + 1) V) (by kernel_rfl) (KA.of ((Below.refl _ _).drew)) (fun hS => ?_)
  refine fl_takeA (i := 0) (d := 3) (v := .pointer (some ⟨w.heap.size, 0, none⟩)) rfl rfl rfl (by kernel_rfl) (by kernel_rfl) (by kernel_rfl) hS ?_ ?_
  · intro w' hk; unfold KA at hk; go_simp
  simp only [Act.put, List.setIfInBounds_toArray, List.set_cons_zero, List.set_cons_succ]
  refine fl_takeA (i := 1) (d := 4) (v := .int .i64 Z) rfl rfl rfl (by kernel_rfl) (by kernel_rfl) (by kernel_rfl) hS ?_ ?_
  · intro w' hk; unfold KA at hk; go_simp
  simp only [Act.put, List.setIfInBounds_toArray, List.set_cons_zero, List.set_cons_succ]
  refine fl_takeA (i := 2) (d := 5) (v := .pointer (some ⟨w.heap.size, 1, none⟩)) rfl rfl rfl (by kernel_rfl) (by kernel_rfl) (by kernel_rfl) hS ?_ ?_
  · intro w' hk; unfold KA at hk; go_simp
  simp only [Act.put, List.setIfInBounds_toArray, List.set_cons_zero, List.set_cons_succ]
  refine fl_takeA (i := 3) (d := 6) (v := .slice (some ⟨ga, oa, none⟩) n c) rfl rfl rfl (by kernel_rfl) (by kernel_rfl) (by kernel_rfl) hS ?_ ?_
  · intro w' hk; unfold KA at hk; go_simp
  simp only [Act.put, List.setIfInBounds_toArray, List.set_cons_zero, List.set_cons_succ]
  refine fl_takeA (i := 5) (d := 8) (v := .pointer (some ⟨w.heap.size, 2, none⟩)) rfl rfl rfl (by kernel_rfl) (by kernel_rfl) (by kernel_rfl) hS ?_ ?_
  · intro w' hk; unfold KA at hk; go_simp
  simp only [Act.put, List.setIfInBounds_toArray, List.set_cons_zero, List.set_cons_succ]
  refine fl_takeA (i := 6) (d := 9) (v := .slice (some ⟨gb, ob, none⟩) m d) rfl rfl rfl (by kernel_rfl) (by kernel_rfl) (by kernel_rfl) hS ?_ ?_
  · intro w' hk; unfold KA at hk; go_simp
  simp only [Act.put, List.setIfInBounds_toArray, List.set_cons_zero, List.set_cons_succ]
  refine wpAnyH_all (rs := [4]) (by kernel_rfl) (by simp) ?_
  intro i hi
  obtain rfl : i = 4 := by simpa using hi
  clear hi
  refine op_call (d := 7) rfl rfl rfl (by go_simp) ((HA.out V.drew HS.out.bl.drew).mono ?_)
  rintro e y1 ⟨v1, rfl, hI1, hb1⟩
  have hk1 : Below V.heap.size V y1 := ((Below.refl _ _).drew).trans (hb1.mono (Nat.le_refl _))
  have hS1 : KA (w.heap.size + 1) V y1 := KA.of (hk1.mono (by omega))
  refine ⟨_, rfl, hS1, ?_⟩
  simp only [Act.put, List.setIfInBounds_toArray, List.set_cons_zero, List.set_cons_succ]
  refine wpAnyH_all (rs := [7]) (by kernel_rfl) (by simp) ?_
  intro i hi
  obtain rfl : i = 7 := by simpa using hi
  clear hi
  refine op_call (d := 10) rfl rfl rfl (by go_simp) ((HC.out y1 (HS.out.bl.trans (hk1.mono HS.out.bl.size))).mono ?_)
  rintro e y2 ⟨v2, rfl, hI2, hb2⟩
  have hk2 : Below V.heap.size V y2 := hk1.trans (hb2.mono hk1.size)
  have hS2 : KA (w.heap.size + 1) V y2 := KA.of (hk2.mono (by omega))
  obtain ⟨va, vc, hv1⟩ := hI1.form
  obtain ⟨vb, vd, hv2⟩ := hI2.form
  rw [← HN.out.1] at hv1
  rw [← HN.out.2] at hv2
  subst hv1 hv2
  refine ⟨_, rfl, hS2, ?_⟩
  simp only [Act.put, List.setIfInBounds_toArray, List.set_cons_zero, List.set_cons_succ]
  refine fl_takeA (i := 8) (d := 11) (v := .agg #[.int .i64 Z, .slice va n vc, .slice vb m vd]) rfl rfl rfl (by kernel_rfl) (by kernel_rfl) (by kernel_rfl) hS2 ?_ ?_
  · intro w' hk; go_simp
  simp only [Act.put, List.setIfInBounds_toArray, List.set_cons_zero, List.set_cons_succ]
  refine wpAnyH_all (rs := [9]) (by kernel_rfl) (by simp) ?_
  intro i hi
  obtain rfl : i = 9 := by simpa using hi
  clear hi
  have r2 := (hk2.block _ hVs).trans HS.out.b1
  refine op_store rfl rfl rfl _ _ _ rfl (w.heap.size + 1) #[.int .i64 Z, .slice va n vc, .slice vb m vd] rfl rfl (there_nF r2 rfl) (by kernel_rfl) (by simp [Value.oneCell']) ?_
  obtain ⟨q0, q1, q2, qf, ql⟩ := tw_three (set_three20 (a' := .int .i64 Z) (b' := .slice va n vc) (c' := .slice vb m vd) r2)
  have HB : Hid (OwL (y2.setCells (w.heap.size + 1) 0 [.int .i64 Z, .slice va n vc, .slice vb m vd]) w.heap.size (.slice va n vc) (.slice vb m vd) s t ∧ Below w.heap.size w (y2.setCells (w.heap.size + 1) 0 [.int .i64 Z, .slice va n vc, .slice vb m vd])) := by
    have hz : V.drew.heap.size = V.heap.size := rfl
    refine ⟨⟨?_, ?_, ?_⟩, below_setCells _ (by omega) _ _ _ (HS.out.bl.trans (hk2.mono HS.out.bl.size))⟩
    · refine ((hI1.bel hb2).kept fun q hq => ?_).low (show w.heap.size ≤ V.drew.heap.size by rw [hz]; omega)
      have h3 := (IS.lt hI1 q hq).1
      exact setCells_off20 _ _ (by rw [hz] at h3; omega) _ _
    · refine (hI2.kept fun q hq => ?_).low (show w.heap.size ≤ y1.heap.size by have := hk1.size; omega)
      have h3 := (IS.lt hI2 q hq).1
      exact setCells_off20 _ _ (by have := hk1.size; omega) _ _
    · intro g h1 h2
      have h3 := (IS.lt hI1 g h1).2
      have h4 := (IS.lt hI2 g h2).1
      omega
  have hS3 : KA (w.heap.size + 1) V (y2.setCells (w.heap.size + 1) 0 [.int .i64 Z, .slice va n vc, .slice vb m vd]) := KA.of (below_setCells _ (Nat.le_refl _) _ _ _ (hk2.mono (by omega)))
  refine ⟨hS3, wpAnyH_done (by kernel_rfl) (NoPanic.normal ?_) _⟩
  generalize y2.setCells (w.heap.size + 1) 0 [.int .i64 Z, .slice va n vc, .slice vb m vd] = V' at HB q0 q1 q2 qf ql ⊢
  clear hS hS1 hS2 hS3 hk1 hk2 hI1 hI2 hb1 hb2 r2 HA HC HS p0 p1 p2 pl qf
  go_wp2
  try simp only [Exit.inBlock, Exit.then]
  refine bodyPost_ret (by simp [results, Try.results54, go_sem, q0, q1, q2]; try rfl) rfl ⟨_, _, rfl, HB.out.1, HB.out.2⟩

end Go.Proofs.Ytgbbigokbbllgaa
