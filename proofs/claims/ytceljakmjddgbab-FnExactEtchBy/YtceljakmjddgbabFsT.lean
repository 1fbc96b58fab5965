/- Proved here: sections in the laws: weighed, copied; how one that came in is read. -/
import Derived.Test.YtceljakmjddgbabFiB
import Derived.Test.YtceljakmjddgbabFsE
namespace Go.Proofs.Ytceljakmjddgbab
open Go.ChangeShapes Go.WideShapes Go.ChangeAt Go.RowKit Go.Joins Go.Deep
set_option linter.unusedVariables false
set_option linter.unusedSimpArgs false

set_option maxHeartbeats 1600000 in
theorem szSection_gen (s : List (List Flm)) (a : Option Addr) (n c : Nat) (l : Int) (w : World) (h0 : 0 ≤ l) (h1 : l ≤ 1048576) (h2 : n ≤ maxLen) (h : RsF w (.slice a n c) s) (hm : ∀ j, (s.getD j []).length ≤ maxLen) :
    Calls Try.prog 8 #[.agg #[.slice a n c], .int .i64 l] w fun e w' => ∃ r, e = .returned (.int .i64 r) ∧ (r < 0 ∨ (0 ≤ r ∧ r ≤ l ∧ SmF s)) ∧ Below w.heap.size w w' := by
  have H : Hid (n ≤ maxLen ∧ RsF w (.slice a n c) s ∧ ∀ j, (s.getD j []).length ≤ maxLen) := ⟨h2, h, hm⟩
  clear h2 h hm
  go_enter Try.func8, Try.ntmps8
  go_wp2_with (fail)
  refine (szFilmSS_gen s a n c l _ h0 h1 H.out.1 (H.out.2.1.below (by (repeat' (first | (with_reducible exact Below.refl _ _) | (with_reducible assumption) | (with_reducible refine Below.setCell ?_ ?_ _) | (with_reducible refine Below.alloc ?_ ?_ _) | (with_reducible refine below_drewN ?_ _) | (with_reducible refine Below.drew ?_) | (with_reducible exact Nat.le_refl _) | omega | (simp; done) | (simp; omega))))) H.out.2.2).mono ?_
  rintro e w1 ⟨q1, rfl, hq1, hb1⟩
  have HB1 : Hid (Below w.heap.size w w1) := (show Below w.heap.size w _ from by (repeat' (first | (with_reducible exact Below.refl _ _) | (with_reducible assumption) | (with_reducible refine Below.setCell ?_ ?_ _) | (with_reducible refine Below.alloc ?_ ?_ _) | (with_reducible refine below_drewN ?_ _) | (with_reducible refine Below.drew ?_) | (with_reducible exact Nat.le_refl _) | omega | (simp; done) | (simp; omega)))).trans (hb1.mono (by simp))
  clear hb1
  rcases hq1 with hneg | ⟨h3, h4, h5⟩
  · go_wp2
    go_returns
    exact ⟨-1, rfl, Or.inl (by omega), HB1.out⟩
  have h6 : ¬ q1 < 0 := by omega
  have H5 : Hid (SmF s) := h5
  clear h5
  go_wp2
  go_returns
  exact ⟨q1, rfl, Or.inr ⟨h3, h4, H5.out⟩, HB1.out⟩

theorem sec_one {w : World} {k : Nat} {a : Value} {T : TypeId} (h : w.heap[k]? = some (.cells #[a] T)) :
    w.cell? ⟨k, 0, none⟩ = some a ∧ (∀ i, w.frozen? ⟨k, i, none⟩ = false) ∧ k < w.heap.size := by
  refine ⟨by simp [World.cell?, h], fun i => by simp [World.frozen?, h], ?_⟩
  rcases Nat.lt_or_ge k w.heap.size with h' | h'
  · exact h'
  · rw [Array.getElem?_eq_none h'] at h; cases h
theorem sec_at1 (w : World) (a b : Obj) : ((w.alloc a).alloc b).heap[w.heap.size + 1]? = some b := by have := heap_alloc_new (w.alloc a) b; simpa using this
theorem sec_at2 (w : World) (a b c : Obj) : (((w.alloc a).alloc b).alloc c).heap[w.heap.size + 2]? = some c := by have := heap_alloc_new ((w.alloc a).alloc b) c; simpa using this

set_option maxHeartbeats 3200000 in
theorem toSection_any {w : World} {v : Value} {s : List (List Flm)} (hn : SmF s) (h : RsF w v s) :
    Calls Try.prog 10 #[.agg #[v]] w fun e w' => ∃ g : Nat × List Value, e = .returned (.agg #[.slice (some ⟨g.1, 0, none⟩) s.length s.length]) ∧ RoF w' w.heap.size (.slice (some ⟨g.1, 0, none⟩) s.length s.length) s g.2 ∧ Below w.heap.size w w' := by
  obtain ⟨a, c, rfl⟩ := h.form
  obtain ⟨n, hnn⟩ : ∃ n, n = s.length := ⟨_, rfl⟩
  rw [← hnn] at h ⊢
  have H : Hid (RsF w (.slice a n c) s ∧ SmF s ∧ n = s.length) := ⟨h, hn, hnn⟩
  clear h hn hnn
  go_enter Try.func10, Try.ntmps10
  go_wp2_with (fail)
  refine (toFilmSS_any H.out.2.1 (H.out.1.below (by (repeat' (first | (with_reducible exact Below.refl _ _) | (with_reducible assumption) | (with_reducible refine Below.setCell ?_ ?_ _) | (with_reducible refine Below.alloc ?_ ?_ _) | (with_reducible refine below_drewN ?_ _) | (with_reducible refine Below.drew ?_) | (with_reducible exact Nat.le_refl _) | omega | (simp; done) | (simp; omega)))))).mono ?_
  rintro e w1 ⟨⟨g1, vs⟩, rfl, hs1, hb1⟩
  have k1 := (hb1.block (w.heap.size + 1) (by simp)).trans ((Below.heap_alloc _ _ _ (by simp)).trans (sec_at1 w _ _))
  have k2 := (hb1.block (w.heap.size + 2) (by simp)).trans (sec_at2 w _ _ _)
  have hb : Below w.heap.size w w1 := (show Below w.heap.size w _ from by (repeat' (first | (with_reducible exact Below.refl _ _) | (with_reducible assumption) | (with_reducible refine Below.setCell ?_ ?_ _) | (with_reducible refine Below.alloc ?_ ?_ _) | (with_reducible refine below_drewN ?_ _) | (with_reducible refine Below.drew ?_) | (with_reducible exact Nat.le_refl _) | omega | (simp; done) | (simp; omega)))).trans (hb1.mono (by simp; omega))
  rw [← H.out.2.2] at hs1 ⊢
  obtain ⟨W2, hW2⟩ : ∃ W2, W2 = (w1.setCell ⟨w.heap.size + 2, 0, none⟩ (.slice (some ⟨g1, 0, none⟩) n n)).setCell ⟨w.heap.size + 1, 0, none⟩ (.slice (some ⟨g1, 0, none⟩) n n) := ⟨_, rfl⟩
  have HF : Hid (RoF W2 w.heap.size (.slice (some ⟨g1, 0, none⟩) n n) s vs ∧ Below w.heap.size w W2) := by
    have ho : ∀ q, w.heap.size + 3 ≤ q → W2.heap[q]? = w1.heap[q]? := fun q hq => by
      rw [hW2, heap_setCell_other _ _ _ _ (by simp; omega), heap_setCell_other _ _ _ _ (by simp; omega)]
    refine ⟨(hs1.kept (fun q hq => ho q ?_) (fun i hi q hq => ho q ?_)).low (by simp; omega), ?_⟩
    · have := (rowBlk hs1.o hq).1; simp at this; omega
    · have := (rowBlk (hs1.bx i hi) hq).1; simp at this; omega
    · rw [hW2]
      (repeat' (first | (with_reducible exact Below.refl _ _) | (with_reducible assumption) | (with_reducible refine Below.setCell ?_ ?_ _) | (with_reducible refine Below.alloc ?_ ?_ _) | (with_reducible refine below_drewN ?_ _) | (with_reducible refine Below.drew ?_) | (with_reducible exact Nat.le_refl _) | omega | (simp; done) | (simp; omega)))
  obtain ⟨q0, qf, ql⟩ := sec_one k2
  have qf0 := qf 0
  obtain ⟨p0, pf, pl⟩ := sec_one k1
  have pf0 := pf 0
  have e1 : W2.heap[w.heap.size + 1]? = some (.cells #[.slice (some ⟨g1, 0, none⟩) n n] 30) := by
    have k1' : (w1.setCell ⟨w.heap.size + 2, 0, none⟩ (.slice (some ⟨g1, 0, none⟩) n n)).heap[w.heap.size + 1]? = some (.cells #[.slice none 0 0] 30) := by rw [heap_setCell_other _ _ _ _ (by simp)]; exact k1
    have s0 := heap_setCell_same _ _ 0 _ _ (.slice (some ⟨g1, 0, none⟩) n n) k1'
    rw [hW2]
    simpa using s0
  have HW2 : Hid _ := hW2
  obtain ⟨t0, tf, tl⟩ := sec_one e1
  clear hW2 k1 k2 hb hs1 e1 hb1 qf pf tf
  go_wp2
  rw [← HW2.out]
  refine bodyPost_ret (by simp [results, Try.results10, go_sem, t0]) rfl ⟨(g1, vs), rfl, HF.out⟩

set_option maxRecDepth 100000 in
/-- A section that came in. -/
theorem section_open {H : Type} {enc : TypeId × Value → H} {W : World} {base : Nat} {v : Value} {d : DataW H} {p : List MemPlace}
    (hv : Value.okWide Try.prog W .any base 24 v) (h : DataW.Trod enc Try.prog W 0 (fun _ => true) true 24 v d p) :
    ∃ (a : Option Addr) (n c : Nat) (s : List (List Flm)), v = .agg #[.slice a n c] ∧ RsF W (.slice a n c) s ∧ (n ≤ maxLen ∧ ∀ j, (s.getD j []).length ≤ maxLen) := by
  obtain ⟨cs, rfl, hsz⟩ := okWide_struct Try.underlying24 hv
  have k3 : Try.prog.cellsOf 24 = 1 := by kernel_rfl
  rw [k3] at hsz
  obtain ⟨l⟩ := cs
  obtain ⟨c0, rfl⟩ : ∃ c0, l = [c0] := by
    match l, hsz with
    | [c0], _ => exact ⟨c0, rfl⟩
  obtain ⟨fuel, hf⟩ := h
  obtain ⟨n, hl, hfs⟩ := trod_fields Try.underlying24 (by kernel_rfl) (by kernel_rfl) hf
  obtain ⟨c1, y, hc, ht⟩ := hfs 0 _ rfl
  simp [Value.cells] at hc
  subst hc
  obtain ⟨a, n, c, s, hcs, h1, h2⟩ := filmrows_cell ht
  simp at hcs
  subst hcs
  exact ⟨a, n, c, s, rfl, h1, h2⟩

end Go.Proofs.Ytceljakmjddgbab
