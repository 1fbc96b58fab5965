/- Proved here: DoseMap of both: dmC, dmL. -/
import Derived.Test.YtkbbhdnaemjamaaDmS
import Derived.Test.YtkbbhdnaemjamaaDmJ
namespace Go.Proofs.Ytkbbhdnaemjamaa
open Go.RowKit
set_option linter.unusedVariables false
set_option linter.unusedSimpArgs false

/-- The frame and the answer's place lie as they were laid. -/
structure FR (w wr : World) (f : Bx) : Prop where
  b : wr.heap[w.heap.size]? = some (.cells #[.int .i64 f.x0, .int .i64 f.y0, .int .i64 f.x1, .int .i64 f.y1] 34)
  r : wr.heap[w.heap.size + 1]? = some (.cells #[.int .i64 0, .slice none 0 0] 55)
  bl : Below w.heap.size w wr
  sz : w.heap.size + 2 ≤ wr.heap.size
theorem FR.next {w wr W : World} {a : Bx} (h : FR w wr a) (hb : Below wr.heap.size wr W) : FR w W a :=
  ⟨(hb.block _ (by have := h.sz; omega)).trans h.b, (hb.block _ (by have := h.sz; omega)).trans h.r, h.bl.trans (hb.mono h.bl.size), Nat.le_trans h.sz hb.size⟩
theorem FR.start (w : World) (f : Bx) : FR w ((w.alloc (.cells #[.int .i64 f.x0, .int .i64 f.y0, .int .i64 f.x1, .int .i64 f.y1] 34)).alloc (.cells #[.int .i64 0, .slice none 0 0] 55)) f := by
  have h1 := heap_alloc_new (w.alloc (.cells #[.int .i64 f.x0, .int .i64 f.y0, .int .i64 f.x1, .int .i64 f.y1] 34)) (.cells #[.int .i64 0, .slice none 0 0] 55)
  simp only [World.size_alloc] at h1
  exact ⟨(Below.heap_alloc _ _ _ (by simp)).trans (heap_alloc_new w _), h1, by (repeat' (first | (with_reducible exact Below.refl _ _) | (with_reducible assumption) | (with_reducible refine Below.setCell ?_ ?_ _) | (with_reducible refine Below.alloc ?_ ?_ _) | (with_reducible refine below_drewN ?_ _) | (with_reducible refine Below.drew ?_) | (with_reducible exact Nat.le_refl _) | omega | (simp; done) | (simp; omega))), by simp⟩
theorem two_fr {w : World} {k : Nat} {a b : Value} {t : TypeId} (h : w.heap[k]? = some (.cells #[a, b] t)) : w.cell? ⟨k, 0, none⟩ = some a ∧ w.cell? ⟨k, 1, none⟩ = some b ∧ w.frozen? ⟨k, 0, none⟩ = false ∧ w.frozen? ⟨k, 1, none⟩ = false ∧ k < w.heap.size := by
  refine ⟨by simp [World.cell?, h], by simp [World.cell?, h], by simp [World.frozen?, h], by simp [World.frozen?, h], ?_⟩
  rcases Nat.lt_or_ge k w.heap.size with h' | h'
  · exact h'
  · rw [Array.getElem?_eq_none h'] at h; cases h

set_option maxRecDepth 10000 in
set_option maxHeartbeats 8000000 in
theorem impl_dose (l : List Sh) (f : Bx) {w : World} {v : Value} (hn : l.length ≤ 1048576) (h : RG 5 shC w v l) :
    Calls Try.prog 29 #[v, .agg #[.int .i64 f.x0, .int .i64 f.y0, .int .i64 f.x1, .int .i64 f.y1]] w fun e w' => ∃ vr vs, e = .returned (.agg #[.int .i64 (dmC l f), vr]) ∧ RI w' w.heap.size vr (dmL l f) vs ∧ Below w.heap.size w w' := by
  obtain ⟨a, c, rfl⟩ := h.form
  obtain ⟨n, hnn⟩ : ∃ n, n = l.length := ⟨_, rfl⟩
  obtain ⟨y0, hy0⟩ : ∃ y, y = shF l := ⟨_, rfl⟩
  obtain ⟨y1, hy1⟩ : ∃ y, y = frF f := ⟨_, rfl⟩
  obtain ⟨C, hC⟩ : ∃ C, C = dmC l f := ⟨_, rfl⟩
  rw [← hnn] at h ⊢
  have H : Hid (RG 5 shC w (.slice a n c) l ∧ y0 = shF l ∧ y1 = frF f ∧ C = dmC l f) := ⟨h, hy0, hy1, hC⟩
  have HSF : Hid (∀ W : World, Below w.heap.size w W → Calls Try.prog 11 #[.slice a n c] W fun e w' => e = .returned (.int .i64 y0) ∧ Below W.heap.size W w') := fun W hW => by rw [hy0]; exact impl_shots hn (h.below hW)
  have HFF : Hid (∀ W : World, Calls Try.prog 41 #[.agg #[.int .i64 f.x0, .int .i64 f.y0, .int .i64 f.x1, .int .i64 f.y1]] W fun e w' => e = .returned (.int .i64 y1) ∧ Below W.heap.size W w') := fun W => by rw [hy1]; exact impl_frame f W
  rw [← hC]
  clear h hnn hy0 hy1 hC hn
  go_enter Try.func29, Try.ntmps29
  go_wp2_with (fail)
  refine (HSF.out _ (by (repeat' (first | (with_reducible exact Below.refl _ _) | (with_reducible assumption) | (with_reducible refine Below.setCell ?_ ?_ _) | (with_reducible refine Below.alloc ?_ ?_ _) | (with_reducible refine below_drewN ?_ _) | (with_reducible refine Below.drew ?_) | (with_reducible exact Nat.le_refl _) | omega | (simp; done) | (simp; omega))))).mono ?_
  rintro e w1 ⟨rfl, hb1⟩
  have HK1 : Hid (FR w w1 f) := (FR.start w f).next hb1
  clear hb1 HSF
  by_cases q0 : y0 = 0
  case neg =>
    have HE : Hid (C = y0 ∧ dmL l f = []) := by
      have e : dmC l f = y0 := by rw [dmC, if_neg (by rw [← H.out.2.1]; exact q0), H.out.2.1]
      exact ⟨H.out.2.2.2.trans e, by rw [dmL, if_neg (by rw [e]; exact q0)]⟩
    obtain ⟨r0, r1, f0, f1, hlt2⟩ := two_fr HK1.out.r
    go_wp2
    refine bodyPost_ret (by simp [results, Try.results29, go_sem, r0, r1, hlt2]; rfl) rfl ⟨.slice none 0 0, [], ?_, ?_, ?_⟩
    · rw [HE.out.1]
    · rw [HE.out.2]; exact RI.nil _ _
    · have hb := HK1.out.bl
      (repeat' (first | (with_reducible exact Below.refl _ _) | (with_reducible assumption) | (with_reducible refine Below.setCell ?_ ?_ _) | (with_reducible refine Below.alloc ?_ ?_ _) | (with_reducible refine below_drewN ?_ _) | (with_reducible refine Below.drew ?_) | (with_reducible exact Nat.le_refl _) | omega | (simp; done) | (simp; omega)))
  have HS0 : Hid (shF l = 0) := by unfold Hid; rw [← H.out.2.1]; exact q0
  subst q0
  obtain ⟨p0, p1, p2, p3, pf, pl⟩ := wt_four HK1.out.b
  clear pf
  go_wp2_with (fail)
  refine (HFF.out _).mono ?_
  rintro e w2 ⟨rfl, hb2⟩
  have HK2 : Hid (FR w w2 f) := HK1.out.next hb2
  clear hb2 HFF HK1 p0 p1 p2 p3 pl
  by_cases q1 : y1 = 0
  case neg =>
    have HE : Hid (C = y1 ∧ dmL l f = []) := by
      have e : dmC l f = y1 := by rw [dmC, if_pos HS0.out, H.out.2.2.1]
      exact ⟨H.out.2.2.2.trans e, by rw [dmL, if_neg (by rw [e]; exact q1)]⟩
    obtain ⟨r0, r1, f0, f1, hlt2⟩ := two_fr HK2.out.r
    go_wp2
    refine bodyPost_ret (by simp [results, Try.results29, go_sem, r0, r1, hlt2]; rfl) rfl ⟨.slice none 0 0, [], ?_, ?_, ?_⟩
    · rw [HE.out.1]
    · rw [HE.out.2]; exact RI.nil _ _
    · have hb := HK2.out.bl
      (repeat' (first | (with_reducible exact Below.refl _ _) | (with_reducible assumption) | (with_reducible refine Below.setCell ?_ ?_ _) | (with_reducible refine Below.alloc ?_ ?_ _) | (with_reducible refine below_drewN ?_ _) | (with_reducible refine Below.drew ?_) | (with_reducible exact Nat.le_refl _) | omega | (simp; done) | (simp; omega)))
  have HF0 : Hid (frF f = 0) := by unfold Hid; rw [← H.out.2.2.1]; exact q1
  subst q1
  have HE : Hid (C = 0 ∧ dmL l f = mapV l f) := by
    have e : dmC l f = 0 := by rw [dmC, if_pos HS0.out, HF0.out]
    exact ⟨H.out.2.2.2.trans e, by rw [dmL, if_pos e]⟩
  have HG := shF_good HS0.out
  have HRW : Hid (Calls Try.prog 56 #[.slice a n c, .agg #[.int .i64 f.x0, .int .i64 f.y0, .int .i64 f.x1, .int .i64 f.y1]] w2 fun e w' => ∃ v' vs, e = .returned v' ∧ RI w' w2.heap.size v' (mapV l f) vs ∧ Below w2.heap.size w2 w') := impl_rows l f HG.1 (fun x hx => (HG.2 x hx).2) HF0.out (H.out.1.below HK2.out.bl)
  obtain ⟨p0, p1, p2, p3, pf, pl⟩ := wt_four HK2.out.b
  clear pf HG
  go_wp2_with (fail)
  refine HRW.out.mono ?_
  rintro e w3 ⟨v3, vs, rfl, hr3, hb3⟩
  have HK3 : Hid (FR w w3 f ∧ RI w3 w2.heap.size v3 (mapV l f) vs) := ⟨HK2.out.next hb3, hr3⟩
  have hsz2 := HK2.out.sz
  obtain ⟨ra, rc, hrf⟩ := hr3.form
  obtain ⟨m, hm⟩ : ∃ m, m = (mapV l f).length := ⟨_, rfl⟩
  rw [← hm] at hrf
  subst hrf
  obtain ⟨r0, r1, f0, f1, hlt2⟩ := two_fr HK3.out.1.r
  clear hb3 hr3 HRW HK2 p0 p1 p2 p3 pl hm
  go_wp2
  refine bodyPost_ret (by simp [results, Try.results29, go_sem, r0, r1, hlt2]; rfl) rfl ⟨.slice ra m rc, vs, ?_, ?_, ?_⟩
  · rw [HE.out.1]
  · rw [HE.out.2]
    refine RI.low (RI.kept HK3.out.2 (fun g hg => ?_) (fun i hi g hg => ?_)) (by omega)
    · have h1 := (rowBlk HK3.out.2.o hg).1
      rw [heap_setCell_other _ _ _ _ (by simp; omega), heap_setCell_other _ _ _ _ (by simp; omega)]
    · have h1 := (rowBlk (HK3.out.2.bx i hi) hg).1
      rw [heap_setCell_other _ _ _ _ (by simp; omega), heap_setCell_other _ _ _ _ (by simp; omega)]
  · have hb := HK3.out.1.bl
    (repeat' (first | (with_reducible exact Below.refl _ _) | (with_reducible assumption) | (with_reducible refine Below.setCell ?_ ?_ _) | (with_reducible refine Below.alloc ?_ ?_ _) | (with_reducible refine below_drewN ?_ _) | (with_reducible refine Below.drew ?_) | (with_reducible exact Nat.le_refl _) | omega | (simp; done) | (simp; omega)))

set_option maxRecDepth 10000 in
set_option maxHeartbeats 8000000 in
theorem spec_dose (l : List Sh) (f : Bx) {w : World} {v : Value} (hn : l.length ≤ 1048576) (h : RG 5 shC w v l) :
    Calls Try.prog 27 #[v, .agg #[.int .i64 f.x0, .int .i64 f.y0, .int .i64 f.x1, .int .i64 f.y1]] w fun e w' => ∃ vr vs, e = .returned (.agg #[.int .i64 (dmC l f), vr]) ∧ RI w' w.heap.size vr (dmL l f) vs ∧ Below w.heap.size w w' := by
  obtain ⟨a, c, rfl⟩ := h.form
  obtain ⟨n, hnn⟩ : ∃ n, n = l.length := ⟨_, rfl⟩
  obtain ⟨y0, hy0⟩ : ∃ y, y = shF l := ⟨_, rfl⟩
  obtain ⟨y1, hy1⟩ : ∃ y, y = frF f := ⟨_, rfl⟩
  obtain ⟨C, hC⟩ : ∃ C, C = dmC l f := ⟨_, rfl⟩
  rw [← hnn] at h ⊢
  have H : Hid (RG 5 shC w (.slice a n c) l ∧ y0 = shF l ∧ y1 = frF f ∧ C = dmC l f) := ⟨h, hy0, hy1, hC⟩
  have HSF : Hid (∀ W : World, Below w.heap.size w W → Calls Try.prog 9 #[.slice a n c] W fun e w' => e = .returned (.int .i64 y0) ∧ Below W.heap.size W w') := fun W hW => by rw [hy0]; exact spec_shots hn (h.below hW)
  have HFF : Hid (∀ W : World, Calls Try.prog 40 #[.agg #[.int .i64 f.x0, .int .i64 f.y0, .int .i64 f.x1, .int .i64 f.y1]] W fun e w' => e = .returned (.int .i64 y1) ∧ Below W.heap.size W w') := fun W => by rw [hy1]; exact spec_frame f W
  rw [← hC]
  clear h hnn hy0 hy1 hC hn
  go_enter Try.func27, Try.ntmps27
  go_wp2_with (fail)
  refine (HSF.out _ (by (repeat' (first | (with_reducible exact Below.refl _ _) | (with_reducible assumption) | (with_reducible refine Below.setCell ?_ ?_ _) | (with_reducible refine Below.alloc ?_ ?_ _) | (with_reducible refine below_drewN ?_ _) | (with_reducible refine Below.drew ?_) | (with_reducible exact Nat.le_refl _) | omega | (simp; done) | (simp; omega))))).mono ?_
  rintro e w1 ⟨rfl, hb1⟩
  have HK1 : Hid (FR w w1 f) := (FR.start w f).next hb1
  clear hb1 HSF
  by_cases q0 : y0 = 0
  case neg =>
    have HE : Hid (C = y0 ∧ dmL l f = []) := by
      have e : dmC l f = y0 := by rw [dmC, if_neg (by rw [← H.out.2.1]; exact q0), H.out.2.1]
      exact ⟨H.out.2.2.2.trans e, by rw [dmL, if_neg (by rw [e]; exact q0)]⟩
    obtain ⟨r0, r1, f0, f1, hlt2⟩ := two_fr HK1.out.r
    go_wp2
    refine bodyPost_ret (by simp [results, Try.results27, go_sem, r0, r1, hlt2]; rfl) rfl ⟨.slice none 0 0, [], ?_, ?_, ?_⟩
    · rw [HE.out.1]
    · rw [HE.out.2]; exact RI.nil _ _
    · have hb := HK1.out.bl
      (repeat' (first | (with_reducible exact Below.refl _ _) | (with_reducible assumption) | (with_reducible refine Below.setCell ?_ ?_ _) | (with_reducible refine Below.alloc ?_ ?_ _) | (with_reducible refine below_drewN ?_ _) | (with_reducible refine Below.drew ?_) | (with_reducible exact Nat.le_refl _) | omega | (simp; done) | (simp; omega)))
  have HS0 : Hid (shF l = 0) := by unfold Hid; rw [← H.out.2.1]; exact q0
  subst q0
  obtain ⟨p0, p1, p2, p3, pf, pl⟩ := wt_four HK1.out.b
  clear pf
  go_wp2_with (fail)
  refine (HFF.out _).mono ?_
  rintro e w2 ⟨rfl, hb2⟩
  have HK2 : Hid (FR w w2 f) := HK1.out.next hb2
  clear hb2 HFF HK1 p0 p1 p2 p3 pl
  by_cases q1 : y1 = 0
  case neg =>
    have HE : Hid (C = y1 ∧ dmL l f = []) := by
      have e : dmC l f = y1 := by rw [dmC, if_pos HS0.out, H.out.2.2.1]
      exact ⟨H.out.2.2.2.trans e, by rw [dmL, if_neg (by rw [e]; exact q1)]⟩
    obtain ⟨r0, r1, f0, f1, hlt2⟩ := two_fr HK2.out.r
    go_wp2
    refine bodyPost_ret (by simp [results, Try.results27, go_sem, r0, r1, hlt2]; rfl) rfl ⟨.slice none 0 0, [], ?_, ?_, ?_⟩
    · rw [HE.out.1]
    · rw [HE.out.2]; exact RI.nil _ _
    · have hb := HK2.out.bl
      (repeat' (first | (with_reducible exact Below.refl _ _) | (with_reducible assumption) | (with_reducible refine Below.setCell ?_ ?_ _) | (with_reducible refine Below.alloc ?_ ?_ _) | (with_reducible refine below_drewN ?_ _) | (with_reducible refine Below.drew ?_) | (with_reducible exact Nat.le_refl _) | omega | (simp; done) | (simp; omega)))
  have HF0 : Hid (frF f = 0) := by unfold Hid; rw [← H.out.2.2.1]; exact q1
  subst q1
  have HE : Hid (C = 0 ∧ dmL l f = mapV l f) := by
    have e : dmC l f = 0 := by rw [dmC, if_pos HS0.out, HF0.out]
    exact ⟨H.out.2.2.2.trans e, by rw [dmL, if_pos e]⟩
  have HG := shF_good HS0.out
  have HRW : Hid (Calls Try.prog 55 #[.slice a n c, .agg #[.int .i64 f.x0, .int .i64 f.y0, .int .i64 f.x1, .int .i64 f.y1]] w2 fun e w' => ∃ v' vs, e = .returned v' ∧ RI w' w2.heap.size v' (mapV l f) vs ∧ Below w2.heap.size w2 w') := spec_map l f HG.1 (fun x hx => (HG.2 x hx).2) HF0.out (H.out.1.below HK2.out.bl)
  obtain ⟨p0, p1, p2, p3, pf, pl⟩ := wt_four HK2.out.b
  clear pf HG
  go_wp2_with (fail)
  refine HRW.out.mono ?_
  rintro e w3 ⟨v3, vs, rfl, hr3, hb3⟩
  have HK3 : Hid (FR w w3 f ∧ RI w3 w2.heap.size v3 (mapV l f) vs) := ⟨HK2.out.next hb3, hr3⟩
  have hsz2 := HK2.out.sz
  obtain ⟨ra, rc, hrf⟩ := hr3.form
  obtain ⟨m, hm⟩ : ∃ m, m = (mapV l f).length := ⟨_, rfl⟩
  rw [← hm] at hrf
  subst hrf
  obtain ⟨r0, r1, f0, f1, hlt2⟩ := two_fr HK3.out.1.r
  clear hb3 hr3 HRW HK2 p0 p1 p2 p3 pl hm
  go_wp2
  refine bodyPost_ret (by simp [results, Try.results27, go_sem, r0, r1, hlt2]; rfl) rfl ⟨.slice ra m rc, vs, ?_, ?_, ?_⟩
  · rw [HE.out.1]
  · rw [HE.out.2]
    refine RI.low (RI.kept HK3.out.2 (fun g hg => ?_) (fun i hi g hg => ?_)) (by omega)
    · have h1 := (rowBlk HK3.out.2.o hg).1
      rw [heap_setCell_other _ _ _ _ (by simp; omega), heap_setCell_other _ _ _ _ (by simp; omega)]
    · have h1 := (rowBlk (HK3.out.2.bx i hi) hg).1
      rw [heap_setCell_other _ _ _ _ (by simp; omega), heap_setCell_other _ _ _ _ (by simp; omega)]
  · have hb := HK3.out.1.bl
    (repeat' (first | (with_reducible exact Below.refl _ _) | (with_reducible assumption) | (with_reducible refine Below.setCell ?_ ?_ _) | (with_reducible refine Below.alloc ?_ ?_ _) | (with_reducible refine below_drewN ?_ _) | (with_reducible refine Below.drew ?_) | (with_reducible exact Nat.le_refl _) | omega | (simp; done) | (simp; omega)))

end Go.Proofs.Ytkbbhdnaemjamaa
