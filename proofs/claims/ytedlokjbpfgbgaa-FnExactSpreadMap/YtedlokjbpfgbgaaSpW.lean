/- Proved here: SpreadMap of the program. -/
import Derived.Test.YtedlokjbpfgbgaaSpC
import Derived.Test.YtedlokjbpfgbgaaWsF
namespace Go.Proofs.Ytedlokjbpfgbgaa
open Go.RowKit
set_option linter.unusedVariables false
set_option linter.unusedSimpArgs false

/-- What SpreadMap tells. -/
def spR (l : List Sh) (x : Wt) : List (List Int) := if wsF l x = 0 then spL l x.f x.o x.s x.r.toNat else []
/-- The writer and the answer's place lie as they were laid. -/
structure FW (w wr : World) (x : Wt) : Prop where
  b : wr.heap[w.heap.size]? = some (.cells #[.int .i64 x.f.x0, .int .i64 x.f.y0, .int .i64 x.f.x1, .int .i64 x.f.y1, .int .i64 x.o, .int .i64 x.s, .int .i64 x.r] 36)
  r : wr.heap[w.heap.size + 1]? = some (.cells #[.int .i64 0, .slice none 0 0] 30)
  bl : Below w.heap.size w wr
  sz : w.heap.size + 2 ≤ wr.heap.size
theorem FW.next {w wr W : World} {a : Wt} (h : FW w wr a) (hb : Below wr.heap.size wr W) : FW w W a :=
  ⟨(hb.block _ (by have := h.sz; omega)).trans h.b, (hb.block _ (by have := h.sz; omega)).trans h.r, h.bl.trans (hb.mono h.bl.size), Nat.le_trans h.sz hb.size⟩
theorem FW.start (w : World) (x : Wt) : FW w ((w.alloc (.cells #[.int .i64 x.f.x0, .int .i64 x.f.y0, .int .i64 x.f.x1, .int .i64 x.f.y1, .int .i64 x.o, .int .i64 x.s, .int .i64 x.r] 36)).alloc (.cells #[.int .i64 0, .slice none 0 0] 30)) x := by
  have h1 := heap_alloc_new (w.alloc (.cells #[.int .i64 x.f.x0, .int .i64 x.f.y0, .int .i64 x.f.x1, .int .i64 x.f.y1, .int .i64 x.o, .int .i64 x.s, .int .i64 x.r] 36)) (.cells #[.int .i64 0, .slice none 0 0] 30)
  simp only [World.size_alloc] at h1
  exact ⟨(Below.heap_alloc _ _ _ (by simp)).trans (heap_alloc_new w _), h1, by (repeat' (first | (with_reducible exact Below.refl _ _) | (with_reducible assumption) | (with_reducible refine Below.setCell ?_ ?_ _) | (with_reducible refine Below.alloc ?_ ?_ _) | (with_reducible refine below_drewN ?_ _) | (with_reducible refine Below.drew ?_) | (with_reducible exact Nat.le_refl _) | omega | (simp; done) | (simp; omega))), by simp⟩
theorem two_fw {w : World} {k : Nat} {a b : Value} {t : TypeId} (h : w.heap[k]? = some (.cells #[a, b] t)) : w.cell? ⟨k, 0, none⟩ = some a ∧ w.cell? ⟨k, 1, none⟩ = some b ∧ w.frozen? ⟨k, 0, none⟩ = false ∧ w.frozen? ⟨k, 1, none⟩ = false ∧ k < w.heap.size := by
  refine ⟨by simp [World.cell?, h], by simp [World.cell?, h], by simp [World.frozen?, h], by simp [World.frozen?, h], ?_⟩
  rcases Nat.lt_or_ge k w.heap.size with h' | h'
  · exact h'
  · rw [Array.getElem?_eq_none h'] at h; cases h
theorem spR_good {l : List Sh} {x : Wt} (h : wsF l x = 0) : (l.length ≤ 40 ∧ ∀ y ∈ l, 0 ≤ y.d ∧ y.d ≤ 1000) ∧ frF x.f = 0 ∧ (0 ≤ x.o ∧ x.o ≤ 1000) ∧ (0 ≤ x.s ∧ x.s ≤ 1000) ∧ x.r.toNat ≤ 4 ∧ x.r = (x.r.toNat : Int) := by
  obtain ⟨h1, h2⟩ := wsF_good h
  obtain ⟨h3, h4⟩ := wtF_good h1
  have h5 := shF_good h2
  unfold wtIn at h4
  exact ⟨⟨h5.1, fun y hy => (h5.2 y hy).2⟩, h3, h4.1, h4.2.1, by omega, by omega⟩

set_option maxHeartbeats 1600000 in
theorem impl_spof (x : Wt) (w : World) :
    Calls Try.prog 29 #[.agg #[.int .i64 x.f.x0, .int .i64 x.f.y0, .int .i64 x.f.x1, .int .i64 x.f.y1, .int .i64 x.o, .int .i64 x.s, .int .i64 x.r]] w fun e w' => e = .returned (.func (Fn.func 50) #[] #[.pointer (some ⟨w.heap.size, 0, none⟩)]) ∧ w'.heap[w.heap.size]? = some (.cells #[.int .i64 x.f.x0, .int .i64 x.f.y0, .int .i64 x.f.x1, .int .i64 x.f.y1, .int .i64 x.o, .int .i64 x.s, .int .i64 x.r] 36) ∧ Below w.heap.size w w' := by
  go_enter Try.func29, Try.ntmps29
  go_wp2
  go_returns
  exact ⟨rfl, heap_alloc_new w _, by (repeat' (first | (with_reducible exact Below.refl _ _) | (with_reducible assumption) | (with_reducible refine Below.setCell ?_ ?_ _) | (with_reducible refine Below.alloc ?_ ?_ _) | (with_reducible refine below_drewN ?_ _) | (with_reducible refine Below.drew ?_) | (with_reducible exact Nat.le_refl _) | omega | (simp; done) | (simp; omega)))⟩

set_option maxRecDepth 10000 in
set_option maxHeartbeats 8000000 in
theorem impl_spm (l : List Sh) (x : Wt) {w : World} {v : Value} (hn : l.length ≤ 1048576) (h : RG 5 shC w v l) :
    Calls Try.prog 10 #[v, .agg #[.int .i64 x.f.x0, .int .i64 x.f.y0, .int .i64 x.f.x1, .int .i64 x.f.y1, .int .i64 x.o, .int .i64 x.s, .int .i64 x.r]] w fun e w' => ∃ vr vs, e = .returned (.agg #[.int .i64 (wsF l x), vr]) ∧ RI w' w.heap.size vr (spR l x) vs ∧ Below w.heap.size w w' := by
  obtain ⟨a, c, rfl⟩ := h.form
  obtain ⟨n, hnn⟩ : ∃ n, n = l.length := ⟨_, rfl⟩
  obtain ⟨C, hC⟩ : ∃ C, C = wsF l x := ⟨_, rfl⟩
  rw [← hnn] at h ⊢
  have H : Hid (RG 5 shC w (.slice a n c) l ∧ C = wsF l x) := ⟨h, hC⟩
  have HSF : Hid (∀ W : World, Below w.heap.size w W → Calls Try.prog 28 #[.slice a n c, .agg #[.int .i64 x.f.x0, .int .i64 x.f.y0, .int .i64 x.f.x1, .int .i64 x.f.y1, .int .i64 x.o, .int .i64 x.s, .int .i64 x.r]] W fun e w' => e = .returned (.int .i64 C) ∧ Below W.heap.size W w') := fun W hW => by rw [hC]; exact impl_wsF l x hn (h.below hW)
  have HOF : Hid (∀ W : World, Calls Try.prog 29 #[.agg #[.int .i64 x.f.x0, .int .i64 x.f.y0, .int .i64 x.f.x1, .int .i64 x.f.y1, .int .i64 x.o, .int .i64 x.s, .int .i64 x.r]] W fun e w' => e = .returned (.func (Fn.func 50) #[] #[.pointer (some ⟨W.heap.size, 0, none⟩)]) ∧ w'.heap[W.heap.size]? = some (.cells #[.int .i64 x.f.x0, .int .i64 x.f.y0, .int .i64 x.f.x1, .int .i64 x.f.y1, .int .i64 x.o, .int .i64 x.s, .int .i64 x.r] 36) ∧ Below W.heap.size W w') := fun W => impl_spof x W
  rw [← hC]
  clear h hnn hC hn
  go_enter Try.func10, Try.ntmps10
  go_wp2_with (fail)
  refine (HSF.out _ (by (repeat' (first | (with_reducible exact Below.refl _ _) | (with_reducible assumption) | (with_reducible refine Below.setCell ?_ ?_ _) | (with_reducible refine Below.alloc ?_ ?_ _) | (with_reducible refine below_drewN ?_ _) | (with_reducible refine Below.drew ?_) | (with_reducible exact Nat.le_refl _) | omega | (simp; done) | (simp; omega))))).mono ?_
  rintro e w1 ⟨rfl, hb1⟩
  have HK1 : Hid (FW w w1 x) := (FW.start w x).next hb1
  clear hb1 HSF
  by_cases q0 : C = 0
  case neg =>
    have HE : Hid (spR l x = []) := by unfold Hid spR; rw [if_neg (by rw [← H.out.2]; exact q0)]
    obtain ⟨r0, r1, f0, f1, hlt2⟩ := two_fw HK1.out.r
    go_wp2
    refine bodyPost_ret (by simp [results, Try.results10, go_sem, r0, r1, hlt2]; rfl) rfl ⟨.slice none 0 0, [], ?_, ?_, ?_⟩
    · rfl
    · rw [HE.out]; exact RI.nil _ _
    · have hb := HK1.out.bl
      (repeat' (first | (with_reducible exact Below.refl _ _) | (with_reducible assumption) | (with_reducible refine Below.setCell ?_ ?_ _) | (with_reducible refine Below.alloc ?_ ?_ _) | (with_reducible refine below_drewN ?_ _) | (with_reducible refine Below.drew ?_) | (with_reducible exact Nat.le_refl _) | omega | (simp; done) | (simp; omega)))
  have HS0 : Hid (wsF l x = 0 ∧ spR l x = spL l x.f x.o x.s x.r.toNat) := by
    have e : wsF l x = 0 := by rw [← H.out.2]; exact q0
    exact ⟨e, by unfold spR; rw [if_pos e]⟩
  subst q0
  obtain ⟨p0, p1, p2, p3, p4, p5, p6, pf, pl⟩ := wt_seven HK1.out.b
  clear pf
  go_wp2_with (fail)
  refine (HOF.out _).mono ?_
  rintro e w2 ⟨rfl, hk2, hb2⟩
  have HK2 : Hid (FW w w2 x) := HK1.out.next hb2
  have HCL : Hid (Calls Try.prog 50 #[.slice a n c, .pointer (some ⟨w1.heap.size, 0, none⟩)] w2 fun e w' => ∃ v' vs, e = .returned v' ∧ RI w' w2.heap.size v' (spL l x.f x.o x.s x.r.toNat) vs ∧ Below w2.heap.size w2 w') := by
    obtain ⟨g1, g2, g3, g4, g5, g6⟩ := spR_good HS0.out.1
    rw [g6] at hk2
    exact impl_spc l x.f x.o x.s x.r.toNat g1.1 g1.2 g2 g3 g4 g5 hk2 (H.out.1.below HK2.out.bl)
  clear hb2 hk2 HOF HK1 p0 p1 p2 p3 p4 p5 p6 pl
  go_wp2_with (fail)
  refine HCL.out.mono ?_
  rintro e w3 ⟨v3, vs, rfl, hr3, hb3⟩
  obtain ⟨SL, hSL⟩ : ∃ SL, SL = spL l x.f x.o x.s x.r.toNat := ⟨_, rfl⟩
  rw [← hSL] at hr3
  have HK3 : Hid (FW w w3 x ∧ RI w3 w2.heap.size v3 SL vs ∧ spR l x = SL) := ⟨HK2.out.next hb3, hr3, by rw [hSL]; exact HS0.out.2⟩
  have hsz2 := HK2.out.sz
  obtain ⟨ra, rc, hrf⟩ := hr3.form
  obtain ⟨m, hm⟩ : ∃ m, m = SL.length := ⟨_, rfl⟩
  rw [← hm] at hrf
  subst hrf
  obtain ⟨r0, r1, f0, f1, hlt2⟩ := two_fw HK3.out.1.r
  clear hb3 hr3 HCL HK2 hm hSL
  go_wp2
  refine bodyPost_ret (by simp [results, Try.results10, go_sem, r0, r1, hlt2]; rfl) rfl ⟨.slice ra m rc, vs, ?_, ?_, ?_⟩
  · rfl
  · rw [HK3.out.2.2]
    refine RI.low (RI.kept HK3.out.2.1 (fun g hg => ?_) (fun i hi g hg => ?_)) (by omega)
    · have h1 := (rowBlk HK3.out.2.1.o hg).1
      rw [heap_setCell_other _ _ _ _ (by simp; omega), heap_setCell_other _ _ _ _ (by simp; omega)]
    · have h1 := (rowBlk (HK3.out.2.1.bx i hi) hg).1
      rw [heap_setCell_other _ _ _ _ (by simp; omega), heap_setCell_other _ _ _ _ (by simp; omega)]
  · have hb := HK3.out.1.bl
    (repeat' (first | (with_reducible exact Below.refl _ _) | (with_reducible assumption) | (with_reducible refine Below.setCell ?_ ?_ _) | (with_reducible refine Below.alloc ?_ ?_ _) | (with_reducible refine below_drewN ?_ _) | (with_reducible refine Below.drew ?_) | (with_reducible exact Nat.le_refl _) | omega | (simp; done) | (simp; omega)))

end Go.Proofs.Ytedlokjbpfgbgaa
