/- Proved here: the program's CorrectLines. -/
import Derived.Test.YtfjcebgknpccbabClR
import Derived.Test.YtfjcebgknpccbabClD
import Derived.Test.YtfjcebgknpccbabCrB
import Derived.Deep.DeepCutAuto
namespace Go.Proofs.Ytfjcebgknpccbab
open Go.RowKit
set_option linter.unusedVariables false
set_option linter.unusedSimpArgs false

theorem there_four {w : World} {k : Nat} {a b c d : Value} {T : TypeId} (h : w.heap[k]? = some (.cells #[a, b, c, d] T)) : w.there k 0 4 := by
  intro j hj
  have hj2 : j < 4 := hj
  simp [World.cell?, World.frozen?, h, hj2]
theorem there_three {w : World} {k : Nat} {a b c : Value} {T : TypeId} (h : w.heap[k]? = some (.cells #[a, b, c] T)) : w.there k 0 3 := by
  intro j hj
  have hj2 : j < 3 := hj
  simp [World.cell?, World.frozen?, h, hj2]
theorem four_set {w : World} {k : Nat} {a b c d : Value} {T : TypeId} (h : w.heap[k]? = some (.cells #[a, b, c, d] T)) (a' b' c' d' : Value) : (w.setCells k 0 [a', b', c', d']).heap[k]? = some (.cells #[a', b', c', d'] T) := by
  have s0 := heap_setCell_same _ _ 0 _ _ a' h
  have s1 := heap_setCell_same _ _ 1 _ _ b' s0
  have s2 := heap_setCell_same _ _ 2 _ _ c' s1
  have s3 := heap_setCell_same _ _ 3 _ _ d' s2
  simpa [World.setCells] using s3
theorem three_set {w : World} {k : Nat} {a b c : Value} {T : TypeId} (h : w.heap[k]? = some (.cells #[a, b, c] T)) (a' b' c' : Value) : (w.setCells k 0 [a', b', c']).heap[k]? = some (.cells #[a', b', c'] T) := by
  have s0 := heap_setCell_same _ _ 0 _ _ a' h
  have s1 := heap_setCell_same _ _ 1 _ _ b' s0
  have s2 := heap_setCell_same _ _ 2 _ _ c' s1
  simpa [World.setCells] using s2
theorem cells_off (w : World) (k : Nat) {q : Nat} (h : q ≠ k) : ∀ (vs : List Value) {o : Nat}, (w.setCells k o vs).heap[q]? = w.heap[q]? := by
  intro vs
  induction vs generalizing w with
  | nil => intro o; rfl
  | cons v r ih => intro o; rw [World.setCells, ih, heap_setCell_other _ _ _ _ (by simpa using h)]
theorem own_some {g n c g' : Nat} (h : (Value.slice (some ⟨g, 0, none⟩) n c).ownBlock = some g') : g = g' := Option.some.inj h
theorem OGkept {α : Type} {T k : Nat} {enc : α → List Value} {w w' : World} {B : Nat} {v : Value} {s : List α} (h : OG T k enc w B v s) (hb : ∀ g, v.ownBlock = some g → w'.heap[g]? = w.heap[g]?) : OG T k enc w' B v s := by
  refine ⟨h.1, ?_⟩
  rcases h.2 with h' | ⟨g, cap, cur, rfl, hB, hg, hr⟩
  · exact Or.inl h'
  · exact Or.inr ⟨g, cap, cur, rfl, hB, by rw [hb g rfl]; exact hg, hr⟩
/-- The bending is made. -/
theorem fin_bend {W0 W : World} {kb g1 c1 g3 c3 ge n p : Nat} {X : List Int} {E : Int} {z0 z1 z2 z3 : Value} (hK : Below W0.heap.size W0 W) (hk : W.heap[kb]? = some (.cells #[z0, z1, z2, z3] 64))
    (h1 : IS W W0.heap.size (.slice (some ⟨g1, 0, none⟩) n c1) X) (h3 : IS W W0.heap.size (.slice (some ⟨g3, 0, none⟩) n c3) X) (he : IS W W0.heap.size (.slice (some ⟨ge, 0, none⟩) 1 1) [E])
    (d : g1 ≠ g3 ∧ kb ≠ g1 ∧ kb ≠ g3 ∧ ge ≠ g1 ∧ ge ≠ g3 ∧ ge ≠ kb) (hl : W0.heap.size ≤ kb) :
    BD W0.heap.size kb g1 c1 g3 c3 n p (.slice (some ⟨ge, 0, none⟩) 1 1) X X [E] (W.setCells kb 0 [.slice (some ⟨g1, 0, none⟩) n c1, .slice (some ⟨g3, 0, none⟩) n c3, .slice (some ⟨ge, 0, none⟩) 1 1, fnV p]) ∧ Below W0.heap.size W0 (W.setCells kb 0 [.slice (some ⟨g1, 0, none⟩) n c1, .slice (some ⟨g3, 0, none⟩) n c3, .slice (some ⟨ge, 0, none⟩) 1 1, fnV p]) := by
  refine ⟨⟨four_set hk _ _ _ _, h1.kept fun g hg => ?_, h3.kept fun g hg => ?_, he.kept fun g hg => ?_, ⟨d.1, d.2.1, d.2.2.1, hl⟩, fun g hg => ?_⟩, below_setCells _ hl _ _ _ hK⟩
  · have hg' : g1 = g := own_some hg
    exact cells_off _ _ (by omega) _
  · have hg' : g3 = g := own_some hg
    exact cells_off _ _ (by omega) _
  · have hg' : ge = g := own_some hg
    exact cells_off _ _ (by omega) _
  · have hg' : ge = g := own_some hg
    omega
theorem IS.one {W : World} {ge B : Nat} {E : Int} (h : W.heap[ge]? = some (.cells #[.int .i64 E] 2)) (hB : B ≤ ge) : IS W B (.slice (some ⟨ge, 0, none⟩) 1 1) [E] := by
  unfold IS
  exact ⟨by simp, Or.inr ⟨ge, 1, _, by simp, hB, h, by simp, by simp [maxLen], by simp, by simp⟩⟩

set_option maxRecDepth 10000 in
set_option maxHeartbeats 25600000 in
theorem impl_cr (K len R : Int) {w : World} {vt u : Value} {t : List Ln} {ws : List Int} (hnt : t.length ≤ 1048576) (ht : RG 2 lnC w vt t) (hu : RdI w u ws) :
    Calls Try.prog 10 #[vt, .int .i64 len, .agg #[u, .int .i64 K], .int .i64 R] w fun e w' => ∃ r r2, e = .returned (.agg #[.int .i64 (clC t len ws K R), r, r2]) ∧ OG 57 2 lnC w' w.heap.size r (clS t len ws K R).1 ∧ IS w' w.heap.size r2 (clS t len ws K R).2 ∧ Below w.heap.size w w' := by
  obtain ⟨a, c, rfl⟩ := ht.form
  obtain ⟨b, d, rfl⟩ := hu.form
  obtain ⟨n, hnn⟩ : ∃ n, n = t.length := ⟨_, rfl⟩
  obtain ⟨m, hmm⟩ : ∃ m, m = ws.length := ⟨_, rfl⟩
  rw [← hnn] at ht ⊢
  rw [← hmm] at hu ⊢
  obtain ⟨C, hC⟩ : ∃ C, C = peC t t len ws K := ⟨_, rfl⟩
  obtain ⟨E, hE⟩ : ∃ V, V = peV t t len ws K := ⟨_, rfl⟩
  obtain ⟨CC, hCC⟩ : ∃ C, C = clC t len ws K R := ⟨_, rfl⟩
  obtain ⟨CS, hCS⟩ : ∃ C, C = clS t len ws K R := ⟨_, rfl⟩
  rw [← hCC, ← hCS]
  obtain ⟨q, hq⟩ : ∃ r, r = decide (0 ≤ R ∧ R ≤ 30) := ⟨_, rfl⟩
  have HCL : Hid (∀ W p, Below w.heap.size w W → Cau W p (.slice a n c) len (.slice b m d) K → Calls Try.prog 30 #[.slice a n c, .pointer (some ⟨p, 0, none⟩), .pointer (some ⟨p + 1, 0, none⟩), .pointer (some ⟨p + 1 + 1, 0, none⟩)] W fun e w' => e = .returned (.agg #[.int .i64 C, .int .i64 E]) ∧ Below W.heap.size W w') := fun W p hW hc => by
    rw [hC, hE]
    exact impl_cl K len hc hnt hnt (ht.below hW) (ht.below hW) (hu.below hW)
  have HP : Hid (∀ W, Calls Try.prog 32 #[.int .i64 R, .int .i64 0, .int .i64 30] W fun e w' => e = .returned (.bool q) ∧ w' = W) := impl_ins R 0 30 q hq
  have H : Hid (RG 2 lnC w (.slice a n c) t ∧ RdI w (.slice b m d) ws ∧ n = t.length ∧ C = peC t t len ws K ∧ E = peV t t len ws K ∧ CC = clC t len ws K R ∧ CS = clS t len ws K R ∧ q = decide (0 ≤ R ∧ R ≤ 30)) := ⟨ht, hu, hnn, hC, hE, hCC, hCS, hq⟩
  clear hnt ht hu hnn hmm hC hE hCC hCS hq
  obtain ⟨U, hU⟩ : ∃ U, U = (((w.alloc (.cells #[.slice a n c] 28)).alloc (.cells #[.int .i64 len] 2)).alloc (.cells #[.slice b m d, .int .i64 K] 33)).alloc (.cells #[.int .i64 0, .slice none 0 0, .slice none 0 0] 30) := ⟨_, rfl⟩
  obtain ⟨p, hp⟩ : ∃ p, p = w.heap.size := ⟨_, rfl⟩
  have HU : Hid (Below w.heap.size w U ∧ Cau U p (.slice a n c) len (.slice b m d) K ∧ U.heap[p + 3]? = some (.cells #[.int .i64 0, .slice none 0 0, .slice none 0 0] 30) ∧ p = w.heap.size) := by
    refine ⟨by rw [hU]; (repeat' (first | (with_reducible exact Below.refl _ _) | (with_reducible assumption) | (with_reducible refine Below.setCell ?_ ?_ _) | (with_reducible refine Below.alloc ?_ ?_ _) | (with_reducible refine below_drewN ?_ _) | (with_reducible refine Below.drew ?_) | (with_reducible exact Nat.le_refl _) | omega | (simp; done) | (simp; omega))), ⟨?_, ?_, ?_⟩, ?_, hp⟩
    · rw [hU, hp]
      exact (Below.heap_alloc _ _ _ (by first | (simp; done) | (simp; omega))).trans ((Below.heap_alloc _ _ _ (by first | (simp; done) | (simp; omega))).trans ((Below.heap_alloc _ _ _ (by first | (simp; done) | (simp; omega))).trans (heap_alloc_new w _)))
    · rw [hU, hp]
      exact (Below.heap_alloc _ _ _ (by first | (simp; done) | (simp; omega))).trans ((Below.heap_alloc _ _ _ (by first | (simp; done) | (simp; omega))).trans (kn_at1 w _ _))
    · rw [hU, hp]
      exact (Below.heap_alloc _ _ _ (by first | (simp; done) | (simp; omega))).trans (kn_at2 w _ _ _)
    · rw [hU, hp]
      have := heap_alloc_new (((w.alloc (.cells #[.slice a n c] 28)).alloc (.cells #[.int .i64 len] 2)).alloc (.cells #[.slice b m d, .int .i64 K] 33)) (.cells #[.int .i64 0, .slice none 0 0, .slice none 0 0] 30)
      simpa using this
  go_enter Try.func10, Try.ntmps10
  go_wp2_with (fail)
  rw [← hU, ← hp]
  clear hU hp
  refine (HCL.out U p HU.out.1 HU.out.2.1).mono ?_
  rintro e w1 ⟨rfl, hb1⟩
  have hpU : p + 3 < U.heap.size := ltOf HU.out.2.2.1
  have kr : w1.heap[p + 1 + 1 + 1]? = some (.cells #[.int .i64 0, .slice none 0 0, .slice none 0 0] 30) := (hb1.block (p + 3) hpU).trans HU.out.2.2.1
  have HB1 : Hid (Below w.heap.size w w1 ∧ Cau w1 p (.slice a n c) len (.slice b m d) K ∧ w1.heap[p + 1 + 1 + 1]? = some (.cells #[.int .i64 0, .slice none 0 0, .slice none 0 0] 30) ∧ p + 3 < w1.heap.size) := ⟨HU.out.1.trans (hb1.mono HU.out.1.size), HU.out.2.1.below hb1 (by omega), kr, by have := hb1.size; omega⟩
  have HPW : Hid (p = w.heap.size) := HU.out.2.2.2
  obtain ⟨q0, q1, q2, qf, ql⟩ := cr_three kr
  have qf0 := qf 0
  have qf1 := qf 1
  have qf2 := qf 2
  clear hb1 kr qf HU hpU HCL
  by_cases hC0 : C = 0
  case neg =>
    have hC1 : (C != 0) = true := by simpa using hC0
    have HN : Hid (CC = C ∧ CS = ([], [])) := by
      have h9 := H.out
      have := clC_no (R := R) (by rw [← h9.2.2.2.1]; exact hC0)
      exact ⟨by rw [h9.2.2.2.2.2.1, this.1, ← h9.2.2.2.1], by rw [h9.2.2.2.2.2.2.1, this.2]⟩
    go_wp2
    try simp only [Exit.inBlock, Exit.then]
    have s0 := heap_setCell_same _ _ 0 _ _ (.int .i64 C) HB1.out.2.2.1
    have s1 := heap_setCell_same _ _ 1 _ _ (.slice none 0 0) s0
    have s2 := heap_setCell_same _ _ 2 _ _ (.slice none 0 0) s1
    have kf : ((((w1.setCell ⟨p + 1 + 1 + 1, 0, none⟩ (.int .i64 C)).setCell ⟨p + 1 + 1 + 1, 1, none⟩ (.slice none 0 0)).setCell ⟨p + 1 + 1 + 1, 2, none⟩ (.slice none 0 0)).alloc (.cells #[.int .i64 C, .int .i64 E] 50)).heap[p + 1 + 1 + 1]? = some (.cells #[.int .i64 C, .slice none 0 0, .slice none 0 0] 30) := (Below.heap_alloc _ _ _ (by simp; exact ql)).trans (by simpa using s2)
    have HF : Hid (Below w.heap.size w ((((w1.setCell ⟨p + 1 + 1 + 1, 0, none⟩ (.int .i64 C)).setCell ⟨p + 1 + 1 + 1, 1, none⟩ (.slice none 0 0)).setCell ⟨p + 1 + 1 + 1, 2, none⟩ (.slice none 0 0)).alloc (.cells #[.int .i64 C, .int .i64 E] 50))) := by
      have hB := HB1.out.1
      have hq := HPW.out
      unfold Hid
      (repeat' (first | (with_reducible exact Below.refl _ _) | (with_reducible assumption) | (with_reducible refine Below.setCell ?_ ?_ _) | (with_reducible refine Below.alloc ?_ ?_ _) | (with_reducible refine below_drewN ?_ _) | (with_reducible refine Below.drew ?_) | (with_reducible exact Nat.le_refl _) | omega | (simp; done) | (simp; omega)))
    generalize ((((w1.setCell ⟨p + 1 + 1 + 1, 0, none⟩ (.int .i64 C)).setCell ⟨p + 1 + 1 + 1, 1, none⟩ (.slice none 0 0)).setCell ⟨p + 1 + 1 + 1, 2, none⟩ (.slice none 0 0)).alloc (.cells #[.int .i64 C, .int .i64 E] 50)) = WF at kf HF ⊢
    obtain ⟨z0, z1, z2, zf, zl⟩ := cr_three kf
    refine bodyPost_ret (by simp [results, Try.results10, go_sem, z0, z1, z2]; try rfl) rfl ⟨_, _, by rw [HN.out.1], ?_, ?_, HF.out⟩
    · rw [HN.out.2]; exact World.ownsRow_nil _ _ _ _
    · rw [HN.out.2]; exact World.ownsRow_nil _ _ _ _
  have HC0 : Hid (peC t t len ws K = 0) := H.out.2.2.2.1.symm.trans hC0
  subst hC0
  go_wp2_with (fail)
  refine (HP.out _).mono ?_
  rintro e w2 ⟨rfl, hw2⟩
  subst w2
  cases q with
  | false =>
    have HN : Hid (CC = 3 ∧ CS = ([], [])) := by
      have h9 := H.out
      have := clC_range HC0.out (of_decide_eq_false h9.2.2.2.2.2.2.2.symm)
      exact ⟨by rw [h9.2.2.2.2.2.1, this.1], by rw [h9.2.2.2.2.2.2.1, this.2]⟩
    go_wp2
    try simp only [Exit.inBlock, Exit.then]
    have s0 := heap_setCell_same _ _ 0 _ _ (.int .i64 3) HB1.out.2.2.1
    have s1 := heap_setCell_same _ _ 1 _ _ (.slice none 0 0) s0
    have s2 := heap_setCell_same _ _ 2 _ _ (.slice none 0 0) s1
    have kf : ((((w1.setCell ⟨p + 1 + 1 + 1, 0, none⟩ (.int .i64 3)).setCell ⟨p + 1 + 1 + 1, 1, none⟩ (.slice none 0 0)).setCell ⟨p + 1 + 1 + 1, 2, none⟩ (.slice none 0 0)).alloc (.cells #[.int .i64 0, .int .i64 E] 50)).heap[p + 1 + 1 + 1]? = some (.cells #[.int .i64 3, .slice none 0 0, .slice none 0 0] 30) := (Below.heap_alloc _ _ _ (by simp; exact ql)).trans (by simpa using s2)
    have HF : Hid (Below w.heap.size w ((((w1.setCell ⟨p + 1 + 1 + 1, 0, none⟩ (.int .i64 3)).setCell ⟨p + 1 + 1 + 1, 1, none⟩ (.slice none 0 0)).setCell ⟨p + 1 + 1 + 1, 2, none⟩ (.slice none 0 0)).alloc (.cells #[.int .i64 0, .int .i64 E] 50))) := by
      have hB := HB1.out.1
      have hq := HPW.out
      unfold Hid
      (repeat' (first | (with_reducible exact Below.refl _ _) | (with_reducible assumption) | (with_reducible refine Below.setCell ?_ ?_ _) | (with_reducible refine Below.alloc ?_ ?_ _) | (with_reducible refine below_drewN ?_ _) | (with_reducible refine Below.drew ?_) | (with_reducible exact Nat.le_refl _) | omega | (simp; done) | (simp; omega)))
    generalize ((((w1.setCell ⟨p + 1 + 1 + 1, 0, none⟩ (.int .i64 3)).setCell ⟨p + 1 + 1 + 1, 1, none⟩ (.slice none 0 0)).setCell ⟨p + 1 + 1 + 1, 2, none⟩ (.slice none 0 0)).alloc (.cells #[.int .i64 0, .int .i64 E] 50)) = WF at kf HF ⊢
    obtain ⟨z0, z1, z2, zf, zl⟩ := cr_three kf
    refine bodyPost_ret (by simp [results, Try.results10, go_sem, z0, z1, z2]; try rfl) rfl ⟨_, _, by rw [HN.out.1], ?_, ?_, HF.out⟩
    · rw [HN.out.2]; exact World.ownsRow_nil _ _ _ _
    · rw [HN.out.2]; exact World.ownsRow_nil _ _ _ _
  | true =>
  have hR := of_decide_eq_true H.out.2.2.2.2.2.2.2.symm
  obtain ⟨rn, hrn⟩ : ∃ rn : Nat, R = rn := ⟨R.toNat, by omega⟩
  subst hrn
  have hrn : rn ≤ 30 := by omega
  obtain ⟨N, hN⟩ : ∃ N, N = 2 * t.length := ⟨_, rfl⟩
  have hgood := cl_good HC0.out
  have ht12 := (lnF_good hgood.1).2.2.1
  have HRUN : Hid (CC = 0 ∧ CS = runS t len ws K N rn (t, [E]) ∧ OkS len N 1 (t, [E]) ∧ lnF t len = 0 ∧ knF ws K = 0 ∧ N = 2 * t.length) := by
    have h9 := H.out
    have := clC_run HC0.out hR
    refine ⟨by rw [h9.2.2.2.2.2.1, this.1], ?_, by rw [hN]; exact start_ok hgood.1, hgood.1, hgood.2, hN⟩
    rw [h9.2.2.2.2.2.2.1, this.2, h9.2.2.2.2.1, hN]
    rfl
  have hN24 : N ≤ 24 := by omega
  obtain ⟨W0, hW0⟩ : ∃ W, W = w1.alloc (.cells #[.int .i64 0, .int .i64 E] 50) := ⟨_, rfl⟩
  obtain ⟨s1, hs1⟩ : ∃ s, s = w1.heap.size := ⟨_, rfl⟩
  have hb0 : Below w1.heap.size w1 W0 := by rw [hW0]; (repeat' (first | (with_reducible exact Below.refl _ _) | (with_reducible assumption) | (with_reducible refine Below.setCell ?_ ?_ _) | (with_reducible refine Below.alloc ?_ ?_ _) | (with_reducible refine below_drewN ?_ _) | (with_reducible refine Below.drew ?_) | (with_reducible exact Nat.le_refl _) | omega | (simp; done) | (simp; omega)))
  have HW0 : Hid (Below w.heap.size w W0 ∧ Cau W0 p (.slice a n c) len (.slice b m d) K ∧ W0.heap[p + 1 + 1 + 1]? = some (.cells #[.int .i64 0, .slice none 0 0, .slice none 0 0] 30) ∧ p + 4 ≤ W0.heap.size ∧ W0.heap[s1]? = some (.cells #[.int .i64 0, .int .i64 E] 50)) := by
    have h9 := HB1.out
    refine ⟨h9.1.trans (hb0.mono h9.1.size), h9.2.1.below hb0 (by omega), (hb0.block _ h9.2.2.2).trans h9.2.2.1, by have := hb0.size; omega, by rw [hW0, hs1]; exact heap_alloc_new w1 _⟩
  have HE : Hid (∀ W, Below W0.heap.size W0 W → Calls Try.prog 33 #[.slice a n c] W fun e w' => ∃ g c, e = .returned (.slice (some ⟨g, 0, none⟩) N c) ∧ IS w' W.heap.size (.slice (some ⟨g, 0, none⟩) N c) (flL t) ∧ Below W.heap.size W w' ∧ W.heap.size ≤ g ∧ g < w'.heap.size) := fun W hW => by
    have hWw : Below w.heap.size w W := HW0.out.1.trans (hW.mono HW0.out.1.size)
    refine (impl_eo (by omega) (H.out.1.below hWw)).mono ?_
    rintro e w' ⟨g, n', c', rfl, hi, hb⟩
    have hn' : n' = (flL t).length := by obtain ⟨_, _, e⟩ := hi.form; injection e
    rw [flL_len, ← hN] at hn'
    subst hn'
    exact ⟨g, c', rfl, hi, hb, (IS.lt hi g rfl).1, (IS.lt hi g rfl).2⟩
  go_upto_region 7 with fail
  rw [← hW0, ← hs1]
  clear hW0 hs1 hb0 q0 q1 q2 qf0 qf1 qf2 ql hR hN hgood ht12 HP
  have x0 := cellOf HW0.out.2.1.b0 0 rfl
  have xl := ltOf HW0.out.2.1.b0
  obtain ⟨y0, y1, yf, yl⟩ := kn_two HW0.out.2.2.2.2
  clear yf
  go_cut [11] from 12 (fun r11 wx => ∃ kb, r11 = .pointer (some ⟨kb, 0, none⟩) ∧ Hid (∃ gb cb gt ct ev, BD W0.heap.size kb gb cb gt ct N p ev (flL t) (flL t) [E] wx ∧ Below W0.heap.size W0 wx))
  case first =>
    refine wp_region_float (by kernel_rfl) (fun hS => ?_)
    refine fl_take (i := 0) (d := 26) (v := .slice a n c) rfl rfl rfl (by kernel_rfl) (by kernel_rfl) (by kernel_rfl) hS ?_ ?_
    · intro w' hk; go_simp
    simp only [Act.put, List.setIfInBounds_toArray, List.set_cons_zero, List.set_cons_succ]
    refine fl_take (i := 2) (d := 28) (v := .slice a n c) rfl rfl rfl (by kernel_rfl) (by kernel_rfl) (by kernel_rfl) hS ?_ ?_
    · intro w' hk; go_simp
    simp only [Act.put, List.setIfInBounds_toArray, List.set_cons_zero, List.set_cons_succ]
    refine fl_take (i := 4) (d := 30) (v := .pointer (some ⟨s1, 1, none⟩)) rfl rfl rfl (by kernel_rfl) (by kernel_rfl) (by kernel_rfl) hS ?_ ?_
    · intro w' hk; go_simp
    simp only [Act.put, List.setIfInBounds_toArray, List.set_cons_zero, List.set_cons_succ]
    refine fl_take (i := 5) (d := 31) (v := .int .i64 E) rfl rfl rfl (by kernel_rfl) (by kernel_rfl) (by kernel_rfl) hS ?_ ?_
    · intro w' hk; go_simp
    simp only [Act.put, List.setIfInBounds_toArray, List.set_cons_zero, List.set_cons_succ]
    refine fl_take (i := 7) (d := 33) (v := .func (Fn.func 30) #[] #[.pointer (some ⟨p, 0, none⟩), .pointer (some ⟨p + 1, 0, none⟩), .pointer (some ⟨p + 1 + 1, 0, none⟩)]) rfl rfl rfl (by kernel_rfl) (by kernel_rfl) (by kernel_rfl) hS ?_ ?_
    · intro w' hk; go_simp
    simp only [Act.put, List.setIfInBounds_toArray, List.set_cons_zero, List.set_cons_succ]
    have hz : W0.drew.heap.size = W0.heap.size := rfl
    generalize W0.drew = Wd at hS hz ⊢
    clear x0 xl y0 y1 yl
    refine wpAnyH_all (rs := [1, 6, 9]) (by kernel_rfl) (by simp) ?_
    intro i hi
    rcases (by simpa using hi : i = 1 ∨ i = 6 ∨ i = 9) with rfl | rfl | rfl
    · clear hi
      refine op_call (d := 27) rfl rfl rfl (by go_simp) ((HE.out _ hS.2).mono ?_)
      rintro e v1 ⟨g1, c1, rfl, hi1, hb, hl1, hu1⟩
      have h1 := hi1.low hS.2.size
      have hs1 := hb.size
      have hK1 : KS W0 v1 := hS.call hb
      clear hi1 hb
      refine ⟨_, rfl, hK1, ?_⟩
      simp only [Act.put, List.setIfInBounds_toArray, List.set_cons_zero, List.set_cons_succ]
      refine wpAnyH_all (rs := [3, 6, 9]) (by kernel_rfl) (by simp) ?_
      intro i hi
      rcases (by simpa using hi : i = 3 ∨ i = 6 ∨ i = 9) with rfl | rfl | rfl
      · clear hi
        refine op_call (d := 29) rfl rfl rfl (by go_simp) ((HE.out _ hK1.2).mono ?_)
        rintro e v2 ⟨g3, c3, rfl, hi3, hb, hl3, hu3⟩
        replace h1 := h1.bel hb
        have h3 := hi3.low hK1.2.size
        have hs2 := hb.size
        have hK2 : KS W0 v2 := hK1.call hb
        clear hi3 hb
        refine ⟨_, rfl, hK2, ?_⟩
        simp only [Act.put, List.setIfInBounds_toArray, List.set_cons_zero, List.set_cons_succ]
        refine wpAnyH_all (rs := [6, 9]) (by kernel_rfl) (by simp) ?_
        intro i hi
        rcases (by simpa using hi : i = 6 ∨ i = 9) with rfl | rfl
        · clear hi
          refine op_val (d := 32) (v := .slice (some ⟨v2.heap.size, 0, none⟩) 1 1) (w' := v2.alloc (.cells #[.int .i64 E] 2)) rfl rfl rfl (by go_simp; try rfl) ?_
          simp only [Act.put, List.setIfInBounds_toArray, List.set_cons_zero, List.set_cons_succ]
          have hb : Below v2.heap.size v2 (v2.alloc (.cells #[.int .i64 E] 2)) := (Below.refl _ _).alloc (Nat.le_refl _) _
          have he := heap_alloc_new v2 (.cells #[.int .i64 E] 2)
          have hs3 : (v2.alloc (.cells #[.int .i64 E] 2)).heap.size = v2.heap.size + 1 := by simp
          generalize v2.alloc (.cells #[.int .i64 E] 2) = v3 at hb he hs3 ⊢
          obtain ⟨ge, hge⟩ : ∃ g, g = v2.heap.size := ⟨_, rfl⟩
          rw [← hge] at he ⊢
          replace h1 := h1.bel hb
          replace h3 := h3.bel hb
          have hK3 : KS W0 v3 := hK2.call hb
          clear hb
          refine ⟨hK3, ?_⟩
          refine wpAnyH_all (rs := [8, 9]) (by kernel_rfl) (by simp) ?_
          intro i hi
          rcases (by simpa using hi : i = 8 ∨ i = 9) with rfl | rfl
          · clear hi
            refine op_val (d := 34) (v := .agg #[.slice (some ⟨g1, 0, none⟩) N c1, .slice (some ⟨g3, 0, none⟩) N c3, .slice (some ⟨ge, 0, none⟩) 1 1, .func (Fn.func 30) #[] #[.pointer (some ⟨p, 0, none⟩), .pointer (some ⟨p + 1, 0, none⟩), .pointer (some ⟨p + 1 + 1, 0, none⟩)]]) (w' := v3) rfl rfl rfl (by go_simp; try rfl) ?_
            simp only [Act.put, List.setIfInBounds_toArray, List.set_cons_zero, List.set_cons_succ]
            refine ⟨hK3, ?_⟩
            refine wpAnyH_all (rs := [9]) (by kernel_rfl) (by simp) ?_
            intro i hi
            obtain rfl : i = 9 := by simpa using hi
            clear hi
            refine op_val (d := 11) (v := .pointer (some ⟨v3.heap.size, 0, none⟩)) (w' := v3.alloc (.cells #[.slice none 0 0, .slice none 0 0, .slice none 0 0, .nilFunc] 64)) rfl rfl rfl (by go_simp; try rfl) ?_
            simp only [Act.put, List.setIfInBounds_toArray, List.set_cons_zero, List.set_cons_succ]
            have hb : Below v3.heap.size v3 (v3.alloc (.cells #[.slice none 0 0, .slice none 0 0, .slice none 0 0, .nilFunc] 64)) := (Below.refl _ _).alloc (Nat.le_refl _) _
            have hk := heap_alloc_new v3 (.cells #[.slice none 0 0, .slice none 0 0, .slice none 0 0, .nilFunc] 64)
            have hs5 : (v3.alloc (.cells #[.slice none 0 0, .slice none 0 0, .slice none 0 0, .nilFunc] 64)).heap.size = v3.heap.size + 1 := by simp
            generalize v3.alloc (.cells #[.slice none 0 0, .slice none 0 0, .slice none 0 0, .nilFunc] 64) = v5 at hb hk hs5 ⊢
            obtain ⟨kb, hkb⟩ : ∃ g, g = v3.heap.size := ⟨_, rfl⟩
            rw [← hkb] at hk ⊢
            replace h1 := h1.bel hb
            replace h3 := h3.bel hb
            replace he := (hb.block _ (ltOf he)).trans he
            have hK5 : KS W0 v5 := hK3.call hb
            clear hb
            refine ⟨hK5, ?_⟩
            refine wpAnyH_all (rs := [10]) (by kernel_rfl) (by simp) ?_
            intro i hi
            obtain rfl : i = 10 := by simpa using hi
            clear hi
            have hz0 := hK5.2.size
            have hF := fin_bend (p := p) hK5.2 hk h1 h3 (IS.one he (by omega)) (by omega) (by omega)
            refine op_store rfl rfl rfl _ _ _ rfl kb #[.slice (some ⟨g1, 0, none⟩) N c1, .slice (some ⟨g3, 0, none⟩) N c3, .slice (some ⟨ge, 0, none⟩) 1 1, fnV p] rfl rfl (there_four hk) (by kernel_rfl) (by simp [Value.oneCell', fnV]) ?_
            refine ⟨KS.of hF.2, wpAnyH_done (by kernel_rfl) (NoPanic.normal ?_) _⟩
            go_wp2_with (fail)
            go_meet
            exact ⟨_, rfl, ⟨_, _, _, _, _, hF.1, hF.2⟩⟩
          · clear hi
            refine op_val (d := 11) (v := .pointer (some ⟨v3.heap.size, 0, none⟩)) (w' := v3.alloc (.cells #[.slice none 0 0, .slice none 0 0, .slice none 0 0, .nilFunc] 64)) rfl rfl rfl (by go_simp; try rfl) ?_
            simp only [Act.put, List.setIfInBounds_toArray, List.set_cons_zero, List.set_cons_succ]
            have hb : Below v3.heap.size v3 (v3.alloc (.cells #[.slice none 0 0, .slice none 0 0, .slice none 0 0, .nilFunc] 64)) := (Below.refl _ _).alloc (Nat.le_refl _) _
            have hk := heap_alloc_new v3 (.cells #[.slice none 0 0, .slice none 0 0, .slice none 0 0, .nilFunc] 64)
            have hs7 : (v3.alloc (.cells #[.slice none 0 0, .slice none 0 0, .slice none 0 0, .nilFunc] 64)).heap.size = v3.heap.size + 1 := by simp
            generalize v3.alloc (.cells #[.slice none 0 0, .slice none 0 0, .slice none 0 0, .nilFunc] 64) = v7 at hb hk hs7 ⊢
            obtain ⟨kb, hkb⟩ : ∃ g, g = v3.heap.size := ⟨_, rfl⟩
            rw [← hkb] at hk ⊢
            replace h1 := h1.bel hb
            replace h3 := h3.bel hb
            replace he := (hb.block _ (ltOf he)).trans he
            have hK7 : KS W0 v7 := hK3.call hb
            clear hb
            refine ⟨hK7, ?_⟩
            refine wpAnyH_all (rs := [8]) (by kernel_rfl) (by simp) ?_
            intro i hi
            obtain rfl : i = 8 := by simpa using hi
            clear hi
            refine op_val (d := 34) (v := .agg #[.slice (some ⟨g1, 0, none⟩) N c1, .slice (some ⟨g3, 0, none⟩) N c3, .slice (some ⟨ge, 0, none⟩) 1 1, .func (Fn.func 30) #[] #[.pointer (some ⟨p, 0, none⟩), .pointer (some ⟨p + 1, 0, none⟩), .pointer (some ⟨p + 1 + 1, 0, none⟩)]]) (w' := v7) rfl rfl rfl (by go_simp; try rfl) ?_
            simp only [Act.put, List.setIfInBounds_toArray, List.set_cons_zero, List.set_cons_succ]
            refine ⟨hK7, ?_⟩
            refine wpAnyH_all (rs := [10]) (by kernel_rfl) (by simp) ?_
            intro i hi
            obtain rfl : i = 10 := by simpa using hi
            clear hi
            have hz0 := hK7.2.size
            have hF := fin_bend (p := p) hK7.2 hk h1 h3 (IS.one he (by omega)) (by omega) (by omega)
            refine op_store rfl rfl rfl _ _ _ rfl kb #[.slice (some ⟨g1, 0, none⟩) N c1, .slice (some ⟨g3, 0, none⟩) N c3, .slice (some ⟨ge, 0, none⟩) 1 1, fnV p] rfl rfl (there_four hk) (by kernel_rfl) (by simp [Value.oneCell', fnV]) ?_
            refine ⟨KS.of hF.2, wpAnyH_done (by kernel_rfl) (NoPanic.normal ?_) _⟩
            go_wp2_with (fail)
            go_meet
            exact ⟨_, rfl, ⟨_, _, _, _, _, hF.1, hF.2⟩⟩
        · clear hi
          refine op_val (d := 11) (v := .pointer (some ⟨v2.heap.size, 0, none⟩)) (w' := v2.alloc (.cells #[.slice none 0 0, .slice none 0 0, .slice none 0 0, .nilFunc] 64)) rfl rfl rfl (by go_simp; try rfl) ?_
          simp only [Act.put, List.setIfInBounds_toArray, List.set_cons_zero, List.set_cons_succ]
          have hb : Below v2.heap.size v2 (v2.alloc (.cells #[.slice none 0 0, .slice none 0 0, .slice none 0 0, .nilFunc] 64)) := (Below.refl _ _).alloc (Nat.le_refl _) _
          have hk := heap_alloc_new v2 (.cells #[.slice none 0 0, .slice none 0 0, .slice none 0 0, .nilFunc] 64)
          have hs10 : (v2.alloc (.cells #[.slice none 0 0, .slice none 0 0, .slice none 0 0, .nilFunc] 64)).heap.size = v2.heap.size + 1 := by simp
          generalize v2.alloc (.cells #[.slice none 0 0, .slice none 0 0, .slice none 0 0, .nilFunc] 64) = v10 at hb hk hs10 ⊢
          obtain ⟨kb, hkb⟩ : ∃ g, g = v2.heap.size := ⟨_, rfl⟩
          rw [← hkb] at hk ⊢
          replace h1 := h1.bel hb
          replace h3 := h3.bel hb
          have hK10 : KS W0 v10 := hK2.call hb
          clear hb
          refine ⟨hK10, ?_⟩
          refine wpAnyH_all (rs := [6]) (by kernel_rfl) (by simp) ?_
          intro i hi
          obtain rfl : i = 6 := by simpa using hi
          clear hi
          refine op_val (d := 32) (v := .slice (some ⟨v10.heap.size, 0, none⟩) 1 1) (w' := v10.alloc (.cells #[.int .i64 E] 2)) rfl rfl rfl (by go_simp; try rfl) ?_
          simp only [Act.put, List.setIfInBounds_toArray, List.set_cons_zero, List.set_cons_succ]
          have hb : Below v10.heap.size v10 (v10.alloc (.cells #[.int .i64 E] 2)) := (Below.refl _ _).alloc (Nat.le_refl _) _
          have he := heap_alloc_new v10 (.cells #[.int .i64 E] 2)
          have hs11 : (v10.alloc (.cells #[.int .i64 E] 2)).heap.size = v10.heap.size + 1 := by simp
          generalize v10.alloc (.cells #[.int .i64 E] 2) = v11 at hb he hs11 ⊢
          obtain ⟨ge, hge⟩ : ∃ g, g = v10.heap.size := ⟨_, rfl⟩
          rw [← hge] at he ⊢
          replace h1 := h1.bel hb
          replace h3 := h3.bel hb
          replace hk := (hb.block _ (ltOf hk)).trans hk
          have hK11 : KS W0 v11 := hK10.call hb
          clear hb
          refine ⟨hK11, ?_⟩
          refine wpAnyH_all (rs := [8]) (by kernel_rfl) (by simp) ?_
          intro i hi
          obtain rfl : i = 8 := by simpa using hi
          clear hi
          refine op_val (d := 34) (v := .agg #[.slice (some ⟨g1, 0, none⟩) N c1, .slice (some ⟨g3, 0, none⟩) N c3, .slice (some ⟨ge, 0, none⟩) 1 1, .func (Fn.func 30) #[] #[.pointer (some ⟨p, 0, none⟩), .pointer (some ⟨p + 1, 0, none⟩), .pointer (some ⟨p + 1 + 1, 0, none⟩)]]) (w' := v11) rfl rfl rfl (by go_simp; try rfl) ?_
          simp only [Act.put, List.setIfInBounds_toArray, List.set_cons_zero, List.set_cons_succ]
          refine ⟨hK11, ?_⟩
          refine wpAnyH_all (rs := [10]) (by kernel_rfl) (by simp) ?_
          intro i hi
          obtain rfl : i = 10 := by simpa using hi
          clear hi
          have hz0 := hK11.2.size
          have hF := fin_bend (p := p) hK11.2 hk h1 h3 (IS.one he (by omega)) (by omega) (by omega)
          refine op_store rfl rfl rfl _ _ _ rfl kb #[.slice (some ⟨g1, 0, none⟩) N c1, .slice (some ⟨g3, 0, none⟩) N c3, .slice (some ⟨ge, 0, none⟩) 1 1, fnV p] rfl rfl (there_four hk) (by kernel_rfl) (by simp [Value.oneCell', fnV]) ?_
          refine ⟨KS.of hF.2, wpAnyH_done (by kernel_rfl) (NoPanic.normal ?_) _⟩
          go_wp2_with (fail)
          go_meet
          exact ⟨_, rfl, ⟨_, _, _, _, _, hF.1, hF.2⟩⟩
      · clear hi
        refine op_val (d := 32) (v := .slice (some ⟨v1.heap.size, 0, none⟩) 1 1) (w' := v1.alloc (.cells #[.int .i64 E] 2)) rfl rfl rfl (by go_simp; try rfl) ?_
        simp only [Act.put, List.setIfInBounds_toArray, List.set_cons_zero, List.set_cons_succ]
        have hb : Below v1.heap.size v1 (v1.alloc (.cells #[.int .i64 E] 2)) := (Below.refl _ _).alloc (Nat.le_refl _) _
        have he := heap_alloc_new v1 (.cells #[.int .i64 E] 2)
        have hs14 : (v1.alloc (.cells #[.int .i64 E] 2)).heap.size = v1.heap.size + 1 := by simp
        generalize v1.alloc (.cells #[.int .i64 E] 2) = v14 at hb he hs14 ⊢
        obtain ⟨ge, hge⟩ : ∃ g, g = v1.heap.size := ⟨_, rfl⟩
        rw [← hge] at he ⊢
        replace h1 := h1.bel hb
        have hK14 : KS W0 v14 := hK1.call hb
        clear hb
        refine ⟨hK14, ?_⟩
        refine wpAnyH_all (rs := [3, 9]) (by kernel_rfl) (by simp) ?_
        intro i hi
        rcases (by simpa using hi : i = 3 ∨ i = 9) with rfl | rfl
        · clear hi
          refine op_call (d := 29) rfl rfl rfl (by go_simp) ((HE.out _ hK14.2).mono ?_)
          rintro e v15 ⟨g3, c3, rfl, hi3, hb, hl3, hu3⟩
          replace h1 := h1.bel hb
          replace he := (hb.block _ (ltOf he)).trans he
          have h3 := hi3.low hK14.2.size
          have hs15 := hb.size
          have hK15 : KS W0 v15 := hK14.call hb
          clear hi3 hb
          refine ⟨_, rfl, hK15, ?_⟩
          simp only [Act.put, List.setIfInBounds_toArray, List.set_cons_zero, List.set_cons_succ]
          refine wpAnyH_all (rs := [8, 9]) (by kernel_rfl) (by simp) ?_
          intro i hi
          rcases (by simpa using hi : i = 8 ∨ i = 9) with rfl | rfl
          · clear hi
            refine op_val (d := 34) (v := .agg #[.slice (some ⟨g1, 0, none⟩) N c1, .slice (some ⟨g3, 0, none⟩) N c3, .slice (some ⟨ge, 0, none⟩) 1 1, .func (Fn.func 30) #[] #[.pointer (some ⟨p, 0, none⟩), .pointer (some ⟨p + 1, 0, none⟩), .pointer (some ⟨p + 1 + 1, 0, none⟩)]]) (w' := v15) rfl rfl rfl (by go_simp; try rfl) ?_
            simp only [Act.put, List.setIfInBounds_toArray, List.set_cons_zero, List.set_cons_succ]
            refine ⟨hK15, ?_⟩
            refine wpAnyH_all (rs := [9]) (by kernel_rfl) (by simp) ?_
            intro i hi
            obtain rfl : i = 9 := by simpa using hi
            clear hi
            refine op_val (d := 11) (v := .pointer (some ⟨v15.heap.size, 0, none⟩)) (w' := v15.alloc (.cells #[.slice none 0 0, .slice none 0 0, .slice none 0 0, .nilFunc] 64)) rfl rfl rfl (by go_simp; try rfl) ?_
            simp only [Act.put, List.setIfInBounds_toArray, List.set_cons_zero, List.set_cons_succ]
            have hb : Below v15.heap.size v15 (v15.alloc (.cells #[.slice none 0 0, .slice none 0 0, .slice none 0 0, .nilFunc] 64)) := (Below.refl _ _).alloc (Nat.le_refl _) _
            have hk := heap_alloc_new v15 (.cells #[.slice none 0 0, .slice none 0 0, .slice none 0 0, .nilFunc] 64)
            have hs17 : (v15.alloc (.cells #[.slice none 0 0, .slice none 0 0, .slice none 0 0, .nilFunc] 64)).heap.size = v15.heap.size + 1 := by simp
            generalize v15.alloc (.cells #[.slice none 0 0, .slice none 0 0, .slice none 0 0, .nilFunc] 64) = v17 at hb hk hs17 ⊢
            obtain ⟨kb, hkb⟩ : ∃ g, g = v15.heap.size := ⟨_, rfl⟩
            rw [← hkb] at hk ⊢
            replace h1 := h1.bel hb
            replace h3 := h3.bel hb
            replace he := (hb.block _ (ltOf he)).trans he
            have hK17 : KS W0 v17 := hK15.call hb
            clear hb
            refine ⟨hK17, ?_⟩
            refine wpAnyH_all (rs := [10]) (by kernel_rfl) (by simp) ?_
            intro i hi
            obtain rfl : i = 10 := by simpa using hi
            clear hi
            have hz0 := hK17.2.size
            have hF := fin_bend (p := p) hK17.2 hk h1 h3 (IS.one he (by omega)) (by omega) (by omega)
            refine op_store rfl rfl rfl _ _ _ rfl kb #[.slice (some ⟨g1, 0, none⟩) N c1, .slice (some ⟨g3, 0, none⟩) N c3, .slice (some ⟨ge, 0, none⟩) 1 1, fnV p] rfl rfl (there_four hk) (by kernel_rfl) (by simp [Value.oneCell', fnV]) ?_
            refine ⟨KS.of hF.2, wpAnyH_done (by kernel_rfl) (NoPanic.normal ?_) _⟩
            go_wp2_with (fail)
            go_meet
            exact ⟨_, rfl, ⟨_, _, _, _, _, hF.1, hF.2⟩⟩
          · clear hi
            refine op_val (d := 11) (v := .pointer (some ⟨v15.heap.size, 0, none⟩)) (w' := v15.alloc (.cells #[.slice none 0 0, .slice none 0 0, .slice none 0 0, .nilFunc] 64)) rfl rfl rfl (by go_simp; try rfl) ?_
            simp only [Act.put, List.setIfInBounds_toArray, List.set_cons_zero, List.set_cons_succ]
            have hb : Below v15.heap.size v15 (v15.alloc (.cells #[.slice none 0 0, .slice none 0 0, .slice none 0 0, .nilFunc] 64)) := (Below.refl _ _).alloc (Nat.le_refl _) _
            have hk := heap_alloc_new v15 (.cells #[.slice none 0 0, .slice none 0 0, .slice none 0 0, .nilFunc] 64)
            have hs19 : (v15.alloc (.cells #[.slice none 0 0, .slice none 0 0, .slice none 0 0, .nilFunc] 64)).heap.size = v15.heap.size + 1 := by simp
            generalize v15.alloc (.cells #[.slice none 0 0, .slice none 0 0, .slice none 0 0, .nilFunc] 64) = v19 at hb hk hs19 ⊢
            obtain ⟨kb, hkb⟩ : ∃ g, g = v15.heap.size := ⟨_, rfl⟩
            rw [← hkb] at hk ⊢
            replace h1 := h1.bel hb
            replace h3 := h3.bel hb
            replace he := (hb.block _ (ltOf he)).trans he
            have hK19 : KS W0 v19 := hK15.call hb
            clear hb
            refine ⟨hK19, ?_⟩
            refine wpAnyH_all (rs := [8]) (by kernel_rfl) (by simp) ?_
            intro i hi
            obtain rfl : i = 8 := by simpa using hi
            clear hi
            refine op_val (d := 34) (v := .agg #[.slice (some ⟨g1, 0, none⟩) N c1, .slice (some ⟨g3, 0, none⟩) N c3, .slice (some ⟨ge, 0, none⟩) 1 1, .func (Fn.func 30) #[] #[.pointer (some ⟨p, 0, none⟩), .pointer (some ⟨p + 1, 0, none⟩), .pointer (some ⟨p + 1 + 1, 0, none⟩)]]) (w' := v19) rfl rfl rfl (by go_simp; try rfl) ?_
            simp only [Act.put, List.setIfInBounds_toArray, List.set_cons_zero, List.set_cons_succ]
            refine ⟨hK19, ?_⟩
            refine wpAnyH_all (rs := [10]) (by kernel_rfl) (by simp) ?_
            intro i hi
            obtain rfl : i = 10 := by simpa using hi
            clear hi
            have hz0 := hK19.2.size
            have hF := fin_bend (p := p) hK19.2 hk h1 h3 (IS.one he (by omega)) (by omega) (by omega)
            refine op_store rfl rfl rfl _ _ _ rfl kb #[.slice (some ⟨g1, 0, none⟩) N c1, .slice (some ⟨g3, 0, none⟩) N c3, .slice (some ⟨ge, 0, none⟩) 1 1, fnV p] rfl rfl (there_four hk) (by kernel_rfl) (by simp [Value.oneCell', fnV]) ?_
            refine ⟨KS.of hF.2, wpAnyH_done (by kernel_rfl) (NoPanic.normal ?_) _⟩
            go_wp2_with (fail)
            go_meet
            exact ⟨_, rfl, ⟨_, _, _, _, _, hF.1, hF.2⟩⟩
        · clear hi
          refine op_val (d := 11) (v := .pointer (some ⟨v14.heap.size, 0, none⟩)) (w' := v14.alloc (.cells #[.slice none 0 0, .slice none 0 0, .slice none 0 0, .nilFunc] 64)) rfl rfl rfl (by go_simp; try rfl) ?_
          simp only [Act.put, List.setIfInBounds_toArray, List.set_cons_zero, List.set_cons_succ]
          have hb : Below v14.heap.size v14 (v14.alloc (.cells #[.slice none 0 0, .slice none 0 0, .slice none 0 0, .nilFunc] 64)) := (Below.refl _ _).alloc (Nat.le_refl _) _
          have hk := heap_alloc_new v14 (.cells #[.slice none 0 0, .slice none 0 0, .slice none 0 0, .nilFunc] 64)
          have hs22 : (v14.alloc (.cells #[.slice none 0 0, .slice none 0 0, .slice none 0 0, .nilFunc] 64)).heap.size = v14.heap.size + 1 := by simp
          generalize v14.alloc (.cells #[.slice none 0 0, .slice none 0 0, .slice none 0 0, .nilFunc] 64) = v22 at hb hk hs22 ⊢
          obtain ⟨kb, hkb⟩ : ∃ g, g = v14.heap.size := ⟨_, rfl⟩
          rw [← hkb] at hk ⊢
          replace h1 := h1.bel hb
          replace he := (hb.block _ (ltOf he)).trans he
          have hK22 : KS W0 v22 := hK14.call hb
          clear hb
          refine ⟨hK22, ?_⟩
          refine wpAnyH_all (rs := [3]) (by kernel_rfl) (by simp) ?_
          intro i hi
          obtain rfl : i = 3 := by simpa using hi
          clear hi
          refine op_call (d := 29) rfl rfl rfl (by go_simp) ((HE.out _ hK22.2).mono ?_)
          rintro e v23 ⟨g3, c3, rfl, hi3, hb, hl3, hu3⟩
          replace h1 := h1.bel hb
          replace he := (hb.block _ (ltOf he)).trans he
          replace hk := (hb.block _ (ltOf hk)).trans hk
          have h3 := hi3.low hK22.2.size
          have hs23 := hb.size
          have hK23 : KS W0 v23 := hK22.call hb
          clear hi3 hb
          refine ⟨_, rfl, hK23, ?_⟩
          simp only [Act.put, List.setIfInBounds_toArray, List.set_cons_zero, List.set_cons_succ]
          refine wpAnyH_all (rs := [8]) (by kernel_rfl) (by simp) ?_
          intro i hi
          obtain rfl : i = 8 := by simpa using hi
          clear hi
          refine op_val (d := 34) (v := .agg #[.slice (some ⟨g1, 0, none⟩) N c1, .slice (some ⟨g3, 0, none⟩) N c3, .slice (some ⟨ge, 0, none⟩) 1 1, .func (Fn.func 30) #[] #[.pointer (some ⟨p, 0, none⟩), .pointer (some ⟨p + 1, 0, none⟩), .pointer (some ⟨p + 1 + 1, 0, none⟩)]]) (w' := v23) rfl rfl rfl (by go_simp; try rfl) ?_
          simp only [Act.put, List.setIfInBounds_toArray, List.set_cons_zero, List.set_cons_succ]
          refine ⟨hK23, ?_⟩
          refine wpAnyH_all (rs := [10]) (by kernel_rfl) (by simp) ?_
          intro i hi
          obtain rfl : i = 10 := by simpa using hi
          clear hi
          have hz0 := hK23.2.size
          have hF := fin_bend (p := p) hK23.2 hk h1 h3 (IS.one he (by omega)) (by omega) (by omega)
          refine op_store rfl rfl rfl _ _ _ rfl kb #[.slice (some ⟨g1, 0, none⟩) N c1, .slice (some ⟨g3, 0, none⟩) N c3, .slice (some ⟨ge, 0, none⟩) 1 1, fnV p] rfl rfl (there_four hk) (by kernel_rfl) (by simp [Value.oneCell', fnV]) ?_
          refine ⟨KS.of hF.2, wpAnyH_done (by kernel_rfl) (NoPanic.normal ?_) _⟩
          go_wp2_with (fail)
          go_meet
          exact ⟨_, rfl, ⟨_, _, _, _, _, hF.1, hF.2⟩⟩
      · clear hi
        refine op_val (d := 11) (v := .pointer (some ⟨v1.heap.size, 0, none⟩)) (w' := v1.alloc (.cells #[.slice none 0 0, .slice none 0 0, .slice none 0 0, .nilFunc] 64)) rfl rfl rfl (by go_simp; try rfl) ?_
        simp only [Act.put, List.setIfInBounds_toArray, List.set_cons_zero, List.set_cons_succ]
        have hb : Below v1.heap.size v1 (v1.alloc (.cells #[.slice none 0 0, .slice none 0 0, .slice none 0 0, .nilFunc] 64)) := (Below.refl _ _).alloc (Nat.le_refl _) _
        have hk := heap_alloc_new v1 (.cells #[.slice none 0 0, .slice none 0 0, .slice none 0 0, .nilFunc] 64)
        have hs26 : (v1.alloc (.cells #[.slice none 0 0, .slice none 0 0, .slice none 0 0, .nilFunc] 64)).heap.size = v1.heap.size + 1 := by simp
        generalize v1.alloc (.cells #[.slice none 0 0, .slice none 0 0, .slice none 0 0, .nilFunc] 64) = v26 at hb hk hs26 ⊢
        obtain ⟨kb, hkb⟩ : ∃ g, g = v1.heap.size := ⟨_, rfl⟩
        rw [← hkb] at hk ⊢
        replace h1 := h1.bel hb
        have hK26 : KS W0 v26 := hK1.call hb
        clear hb
        refine ⟨hK26, ?_⟩
        refine wpAnyH_all (rs := [3, 6]) (by kernel_rfl) (by simp) ?_
        intro i hi
        rcases (by simpa using hi : i = 3 ∨ i = 6) with rfl | rfl
        · clear hi
          refine op_call (d := 29) rfl rfl rfl (by go_simp) ((HE.out _ hK26.2).mono ?_)
          rintro e v27 ⟨g3, c3, rfl, hi3, hb, hl3, hu3⟩
          replace h1 := h1.bel hb
          replace hk := (hb.block _ (ltOf hk)).trans hk
          have h3 := hi3.low hK26.2.size
          have hs27 := hb.size
          have hK27 : KS W0 v27 := hK26.call hb
          clear hi3 hb
          refine ⟨_, rfl, hK27, ?_⟩
          simp only [Act.put, List.setIfInBounds_toArray, List.set_cons_zero, List.set_cons_succ]
          refine wpAnyH_all (rs := [6]) (by kernel_rfl) (by simp) ?_
          intro i hi
          obtain rfl : i = 6 := by simpa using hi
          clear hi
          refine op_val (d := 32) (v := .slice (some ⟨v27.heap.size, 0, none⟩) 1 1) (w' := v27.alloc (.cells #[.int .i64 E] 2)) rfl rfl rfl (by go_simp; try rfl) ?_
          simp only [Act.put, List.setIfInBounds_toArray, List.set_cons_zero, List.set_cons_succ]
          have hb : Below v27.heap.size v27 (v27.alloc (.cells #[.int .i64 E] 2)) := (Below.refl _ _).alloc (Nat.le_refl _) _
          have he := heap_alloc_new v27 (.cells #[.int .i64 E] 2)
          have hs28 : (v27.alloc (.cells #[.int .i64 E] 2)).heap.size = v27.heap.size + 1 := by simp
          generalize v27.alloc (.cells #[.int .i64 E] 2) = v28 at hb he hs28 ⊢
          obtain ⟨ge, hge⟩ : ∃ g, g = v27.heap.size := ⟨_, rfl⟩
          rw [← hge] at he ⊢
          replace h1 := h1.bel hb
          replace h3 := h3.bel hb
          replace hk := (hb.block _ (ltOf hk)).trans hk
          have hK28 : KS W0 v28 := hK27.call hb
          clear hb
          refine ⟨hK28, ?_⟩
          refine wpAnyH_all (rs := [8]) (by kernel_rfl) (by simp) ?_
          intro i hi
          obtain rfl : i = 8 := by simpa using hi
          clear hi
          refine op_val (d := 34) (v := .agg #[.slice (some ⟨g1, 0, none⟩) N c1, .slice (some ⟨g3, 0, none⟩) N c3, .slice (some ⟨ge, 0, none⟩) 1 1, .func (Fn.func 30) #[] #[.pointer (some ⟨p, 0, none⟩), .pointer (some ⟨p + 1, 0, none⟩), .pointer (some ⟨p + 1 + 1, 0, none⟩)]]) (w' := v28) rfl rfl rfl (by go_simp; try rfl) ?_
          simp only [Act.put, List.setIfInBounds_toArray, List.set_cons_zero, List.set_cons_succ]
          refine ⟨hK28, ?_⟩
          refine wpAnyH_all (rs := [10]) (by kernel_rfl) (by simp) ?_
          intro i hi
          obtain rfl : i = 10 := by simpa using hi
          clear hi
          have hz0 := hK28.2.size
          have hF := fin_bend (p := p) hK28.2 hk h1 h3 (IS.one he (by omega)) (by omega) (by omega)
          refine op_store rfl rfl rfl _ _ _ rfl kb #[.slice (some ⟨g1, 0, none⟩) N c1, .slice (some ⟨g3, 0, none⟩) N c3, .slice (some ⟨ge, 0, none⟩) 1 1, fnV p] rfl rfl (there_four hk) (by kernel_rfl) (by simp [Value.oneCell', fnV]) ?_
          refine ⟨KS.of hF.2, wpAnyH_done (by kernel_rfl) (NoPanic.normal ?_) _⟩
          go_wp2_with (fail)
          go_meet
          exact ⟨_, rfl, ⟨_, _, _, _, _, hF.1, hF.2⟩⟩
        · clear hi
          refine op_val (d := 32) (v := .slice (some ⟨v26.heap.size, 0, none⟩) 1 1) (w' := v26.alloc (.cells #[.int .i64 E] 2)) rfl rfl rfl (by go_simp; try rfl) ?_
          simp only [Act.put, List.setIfInBounds_toArray, List.set_cons_zero, List.set_cons_succ]
          have hb : Below v26.heap.size v26 (v26.alloc (.cells #[.int .i64 E] 2)) := (Below.refl _ _).alloc (Nat.le_refl _) _
          have he := heap_alloc_new v26 (.cells #[.int .i64 E] 2)
          have hs31 : (v26.alloc (.cells #[.int .i64 E] 2)).heap.size = v26.heap.size + 1 := by simp
          generalize v26.alloc (.cells #[.int .i64 E] 2) = v31 at hb he hs31 ⊢
          obtain ⟨ge, hge⟩ : ∃ g, g = v26.heap.size := ⟨_, rfl⟩
          rw [← hge] at he ⊢
          replace h1 := h1.bel hb
          replace hk := (hb.block _ (ltOf hk)).trans hk
          have hK31 : KS W0 v31 := hK26.call hb
          clear hb
          refine ⟨hK31, ?_⟩
          refine wpAnyH_all (rs := [3]) (by kernel_rfl) (by simp) ?_
          intro i hi
          obtain rfl : i = 3 := by simpa using hi
          clear hi
          refine op_call (d := 29) rfl rfl rfl (by go_simp) ((HE.out _ hK31.2).mono ?_)
          rintro e v32 ⟨g3, c3, rfl, hi3, hb, hl3, hu3⟩
          replace h1 := h1.bel hb
          replace he := (hb.block _ (ltOf he)).trans he
          replace hk := (hb.block _ (ltOf hk)).trans hk
          have h3 := hi3.low hK31.2.size
          have hs32 := hb.size
          have hK32 : KS W0 v32 := hK31.call hb
          clear hi3 hb
          refine ⟨_, rfl, hK32, ?_⟩
          simp only [Act.put, List.setIfInBounds_toArray, List.set_cons_zero, List.set_cons_succ]
          refine wpAnyH_all (rs := [8]) (by kernel_rfl) (by simp) ?_
          intro i hi
          obtain rfl : i = 8 := by simpa using hi
          clear hi
          refine op_val (d := 34) (v := .agg #[.slice (some ⟨g1, 0, none⟩) N c1, .slice (some ⟨g3, 0, none⟩) N c3, .slice (some ⟨ge, 0, none⟩) 1 1, .func (Fn.func 30) #[] #[.pointer (some ⟨p, 0, none⟩), .pointer (some ⟨p + 1, 0, none⟩), .pointer (some ⟨p + 1 + 1, 0, none⟩)]]) (w' := v32) rfl rfl rfl (by go_simp; try rfl) ?_
          simp only [Act.put, List.setIfInBounds_toArray, List.set_cons_zero, List.set_cons_succ]
          refine ⟨hK32, ?_⟩
          refine wpAnyH_all (rs := [10]) (by kernel_rfl) (by simp) ?_
          intro i hi
          obtain rfl : i = 10 := by simpa using hi
          clear hi
          have hz0 := hK32.2.size
          have hF := fin_bend (p := p) hK32.2 hk h1 h3 (IS.one he (by omega)) (by omega) (by omega)
          refine op_store rfl rfl rfl _ _ _ rfl kb #[.slice (some ⟨g1, 0, none⟩) N c1, .slice (some ⟨g3, 0, none⟩) N c3, .slice (some ⟨ge, 0, none⟩) 1 1, fnV p] rfl rfl (there_four hk) (by kernel_rfl) (by simp [Value.oneCell', fnV]) ?_
          refine ⟨KS.of hF.2, wpAnyH_done (by kernel_rfl) (NoPanic.normal ?_) _⟩
          go_wp2_with (fail)
          go_meet
          exact ⟨_, rfl, ⟨_, _, _, _, _, hF.1, hF.2⟩⟩
    · clear hi
      refine op_val (d := 32) (v := .slice (some ⟨Wd.heap.size, 0, none⟩) 1 1) (w' := Wd.alloc (.cells #[.int .i64 E] 2)) rfl rfl rfl (by go_simp; try rfl) ?_
      simp only [Act.put, List.setIfInBounds_toArray, List.set_cons_zero, List.set_cons_succ]
      have hb : Below Wd.heap.size Wd (Wd.alloc (.cells #[.int .i64 E] 2)) := (Below.refl _ _).alloc (Nat.le_refl _) _
      have he := heap_alloc_new Wd (.cells #[.int .i64 E] 2)
      have hs35 : (Wd.alloc (.cells #[.int .i64 E] 2)).heap.size = Wd.heap.size + 1 := by simp
      generalize Wd.alloc (.cells #[.int .i64 E] 2) = v35 at hb he hs35 ⊢
      obtain ⟨ge, hge⟩ : ∃ g, g = Wd.heap.size := ⟨_, rfl⟩
      rw [← hge] at he ⊢
      have hK35 : KS W0 v35 := hS.call hb
      clear hb
      refine ⟨hK35, ?_⟩
      refine wpAnyH_all (rs := [1, 9]) (by kernel_rfl) (by simp) ?_
      intro i hi
      rcases (by simpa using hi : i = 1 ∨ i = 9) with rfl | rfl
      · clear hi
        refine op_call (d := 27) rfl rfl rfl (by go_simp) ((HE.out _ hK35.2).mono ?_)
        rintro e v36 ⟨g1, c1, rfl, hi1, hb, hl1, hu1⟩
        replace he := (hb.block _ (ltOf he)).trans he
        have h1 := hi1.low hK35.2.size
        have hs36 := hb.size
        have hK36 : KS W0 v36 := hK35.call hb
        clear hi1 hb
        refine ⟨_, rfl, hK36, ?_⟩
        simp only [Act.put, List.setIfInBounds_toArray, List.set_cons_zero, List.set_cons_succ]
        refine wpAnyH_all (rs := [3, 9]) (by kernel_rfl) (by simp) ?_
        intro i hi
        rcases (by simpa using hi : i = 3 ∨ i = 9) with rfl | rfl
        · clear hi
          refine op_call (d := 29) rfl rfl rfl (by go_simp) ((HE.out _ hK36.2).mono ?_)
          rintro e v37 ⟨g3, c3, rfl, hi3, hb, hl3, hu3⟩
          replace h1 := h1.bel hb
          replace he := (hb.block _ (ltOf he)).trans he
          have h3 := hi3.low hK36.2.size
          have hs37 := hb.size
          have hK37 : KS W0 v37 := hK36.call hb
          clear hi3 hb
          refine ⟨_, rfl, hK37, ?_⟩
          simp only [Act.put, List.setIfInBounds_toArray, List.set_cons_zero, List.set_cons_succ]
          refine wpAnyH_all (rs := [8, 9]) (by kernel_rfl) (by simp) ?_
          intro i hi
          rcases (by simpa using hi : i = 8 ∨ i = 9) with rfl | rfl
          · clear hi
            refine op_val (d := 34) (v := .agg #[.slice (some ⟨g1, 0, none⟩) N c1, .slice (some ⟨g3, 0, none⟩) N c3, .slice (some ⟨ge, 0, none⟩) 1 1, .func (Fn.func 30) #[] #[.pointer (some ⟨p, 0, none⟩), .pointer (some ⟨p + 1, 0, none⟩), .pointer (some ⟨p + 1 + 1, 0, none⟩)]]) (w' := v37) rfl rfl rfl (by go_simp; try rfl) ?_
            simp only [Act.put, List.setIfInBounds_toArray, List.set_cons_zero, List.set_cons_succ]
            refine ⟨hK37, ?_⟩
            refine wpAnyH_all (rs := [9]) (by kernel_rfl) (by simp) ?_
            intro i hi
            obtain rfl : i = 9 := by simpa using hi
            clear hi
            refine op_val (d := 11) (v := .pointer (some ⟨v37.heap.size, 0, none⟩)) (w' := v37.alloc (.cells #[.slice none 0 0, .slice none 0 0, .slice none 0 0, .nilFunc] 64)) rfl rfl rfl (by go_simp; try rfl) ?_
            simp only [Act.put, List.setIfInBounds_toArray, List.set_cons_zero, List.set_cons_succ]
            have hb : Below v37.heap.size v37 (v37.alloc (.cells #[.slice none 0 0, .slice none 0 0, .slice none 0 0, .nilFunc] 64)) := (Below.refl _ _).alloc (Nat.le_refl _) _
            have hk := heap_alloc_new v37 (.cells #[.slice none 0 0, .slice none 0 0, .slice none 0 0, .nilFunc] 64)
            have hs39 : (v37.alloc (.cells #[.slice none 0 0, .slice none 0 0, .slice none 0 0, .nilFunc] 64)).heap.size = v37.heap.size + 1 := by simp
            generalize v37.alloc (.cells #[.slice none 0 0, .slice none 0 0, .slice none 0 0, .nilFunc] 64) = v39 at hb hk hs39 ⊢
            obtain ⟨kb, hkb⟩ : ∃ g, g = v37.heap.size := ⟨_, rfl⟩
            rw [← hkb] at hk ⊢
            replace h1 := h1.bel hb
            replace h3 := h3.bel hb
            replace he := (hb.block _ (ltOf he)).trans he
            have hK39 : KS W0 v39 := hK37.call hb
            clear hb
            refine ⟨hK39, ?_⟩
            refine wpAnyH_all (rs := [10]) (by kernel_rfl) (by simp) ?_
            intro i hi
            obtain rfl : i = 10 := by simpa using hi
            clear hi
            have hz0 := hK39.2.size
            have hF := fin_bend (p := p) hK39.2 hk h1 h3 (IS.one he (by omega)) (by omega) (by omega)
            refine op_store rfl rfl rfl _ _ _ rfl kb #[.slice (some ⟨g1, 0, none⟩) N c1, .slice (some ⟨g3, 0, none⟩) N c3, .slice (some ⟨ge, 0, none⟩) 1 1, fnV p] rfl rfl (there_four hk) (by kernel_rfl) (by simp [Value.oneCell', fnV]) ?_
            refine ⟨KS.of hF.2, wpAnyH_done (by kernel_rfl) (NoPanic.normal ?_) _⟩
            go_wp2_with (fail)
            go_meet
            exact ⟨_, rfl, ⟨_, _, _, _, _, hF.1, hF.2⟩⟩
          · clear hi
            refine op_val (d := 11) (v := .pointer (some ⟨v37.heap.size, 0, none⟩)) (w' := v37.alloc (.cells #[.slice none 0 0, .slice none 0 0, .slice none 0 0, .nilFunc] 64)) rfl rfl rfl (by go_simp; try rfl) ?_
            simp only [Act.put, List.setIfInBounds_toArray, List.set_cons_zero, List.set_cons_succ]
            have hb : Below v37.heap.size v37 (v37.alloc (.cells #[.slice none 0 0, .slice none 0 0, .slice none 0 0, .nilFunc] 64)) := (Below.refl _ _).alloc (Nat.le_refl _) _
            have hk := heap_alloc_new v37 (.cells #[.slice none 0 0, .slice none 0 0, .slice none 0 0, .nilFunc] 64)
            have hs41 : (v37.alloc (.cells #[.slice none 0 0, .slice none 0 0, .slice none 0 0, .nilFunc] 64)).heap.size = v37.heap.size + 1 := by simp
            generalize v37.alloc (.cells #[.slice none 0 0, .slice none 0 0, .slice none 0 0, .nilFunc] 64) = v41 at hb hk hs41 ⊢
            obtain ⟨kb, hkb⟩ : ∃ g, g = v37.heap.size := ⟨_, rfl⟩
            rw [← hkb] at hk ⊢
            replace h1 := h1.bel hb
            replace h3 := h3.bel hb
            replace he := (hb.block _ (ltOf he)).trans he
            have hK41 : KS W0 v41 := hK37.call hb
            clear hb
            refine ⟨hK41, ?_⟩
            refine wpAnyH_all (rs := [8]) (by kernel_rfl) (by simp) ?_
            intro i hi
            obtain rfl : i = 8 := by simpa using hi
            clear hi
            refine op_val (d := 34) (v := .agg #[.slice (some ⟨g1, 0, none⟩) N c1, .slice (some ⟨g3, 0, none⟩) N c3, .slice (some ⟨ge, 0, none⟩) 1 1, .func (Fn.func 30) #[] #[.pointer (some ⟨p, 0, none⟩), .pointer (some ⟨p + 1, 0, none⟩), .pointer (some ⟨p + 1 + 1, 0, none⟩)]]) (w' := v41) rfl rfl rfl (by go_simp; try rfl) ?_
            simp only [Act.put, List.setIfInBounds_toArray, List.set_cons_zero, List.set_cons_succ]
            refine ⟨hK41, ?_⟩
            refine wpAnyH_all (rs := [10]) (by kernel_rfl) (by simp) ?_
            intro i hi
            obtain rfl : i = 10 := by simpa using hi
            clear hi
            have hz0 := hK41.2.size
            have hF := fin_bend (p := p) hK41.2 hk h1 h3 (IS.one he (by omega)) (by omega) (by omega)
            refine op_store rfl rfl rfl _ _ _ rfl kb #[.slice (some ⟨g1, 0, none⟩) N c1, .slice (some ⟨g3, 0, none⟩) N c3, .slice (some ⟨ge, 0, none⟩) 1 1, fnV p] rfl rfl (there_four hk) (by kernel_rfl) (by simp [Value.oneCell', fnV]) ?_
            refine ⟨KS.of hF.2, wpAnyH_done (by kernel_rfl) (NoPanic.normal ?_) _⟩
            go_wp2_with (fail)
            go_meet
            exact ⟨_, rfl, ⟨_, _, _, _, _, hF.1, hF.2⟩⟩
        · clear hi
          refine op_val (d := 11) (v := .pointer (some ⟨v36.heap.size, 0, none⟩)) (w' := v36.alloc (.cells #[.slice none 0 0, .slice none 0 0, .slice none 0 0, .nilFunc] 64)) rfl rfl rfl (by go_simp; try rfl) ?_
          simp only [Act.put, List.setIfInBounds_toArray, List.set_cons_zero, List.set_cons_succ]
          have hb : Below v36.heap.size v36 (v36.alloc (.cells #[.slice none 0 0, .slice none 0 0, .slice none 0 0, .nilFunc] 64)) := (Below.refl _ _).alloc (Nat.le_refl _) _
          have hk := heap_alloc_new v36 (.cells #[.slice none 0 0, .slice none 0 0, .slice none 0 0, .nilFunc] 64)
          have hs44 : (v36.alloc (.cells #[.slice none 0 0, .slice none 0 0, .slice none 0 0, .nilFunc] 64)).heap.size = v36.heap.size + 1 := by simp
          generalize v36.alloc (.cells #[.slice none 0 0, .slice none 0 0, .slice none 0 0, .nilFunc] 64) = v44 at hb hk hs44 ⊢
          obtain ⟨kb, hkb⟩ : ∃ g, g = v36.heap.size := ⟨_, rfl⟩
          rw [← hkb] at hk ⊢
          replace h1 := h1.bel hb
          replace he := (hb.block _ (ltOf he)).trans he
          have hK44 : KS W0 v44 := hK36.call hb
          clear hb
          refine ⟨hK44, ?_⟩
          refine wpAnyH_all (rs := [3]) (by kernel_rfl) (by simp) ?_
          intro i hi
          obtain rfl : i = 3 := by simpa using hi
          clear hi
          refine op_call (d := 29) rfl rfl rfl (by go_simp) ((HE.out _ hK44.2).mono ?_)
          rintro e v45 ⟨g3, c3, rfl, hi3, hb, hl3, hu3⟩
          replace h1 := h1.bel hb
          replace he := (hb.block _ (ltOf he)).trans he
          replace hk := (hb.block _ (ltOf hk)).trans hk
          have h3 := hi3.low hK44.2.size
          have hs45 := hb.size
          have hK45 : KS W0 v45 := hK44.call hb
          clear hi3 hb
          refine ⟨_, rfl, hK45, ?_⟩
          simp only [Act.put, List.setIfInBounds_toArray, List.set_cons_zero, List.set_cons_succ]
          refine wpAnyH_all (rs := [8]) (by kernel_rfl) (by simp) ?_
          intro i hi
          obtain rfl : i = 8 := by simpa using hi
          clear hi
          refine op_val (d := 34) (v := .agg #[.slice (some ⟨g1, 0, none⟩) N c1, .slice (some ⟨g3, 0, none⟩) N c3, .slice (some ⟨ge, 0, none⟩) 1 1, .func (Fn.func 30) #[] #[.pointer (some ⟨p, 0, none⟩), .pointer (some ⟨p + 1, 0, none⟩), .pointer (some ⟨p + 1 + 1, 0, none⟩)]]) (w' := v45) rfl rfl rfl (by go_simp; try rfl) ?_
          simp only [Act.put, List.setIfInBounds_toArray, List.set_cons_zero, List.set_cons_succ]
          refine ⟨hK45, ?_⟩
          refine wpAnyH_all (rs := [10]) (by kernel_rfl) (by simp) ?_
          intro i hi
          obtain rfl : i = 10 := by simpa using hi
          clear hi
          have hz0 := hK45.2.size
          have hF := fin_bend (p := p) hK45.2 hk h1 h3 (IS.one he (by omega)) (by omega) (by omega)
          refine op_store rfl rfl rfl _ _ _ rfl kb #[.slice (some ⟨g1, 0, none⟩) N c1, .slice (some ⟨g3, 0, none⟩) N c3, .slice (some ⟨ge, 0, none⟩) 1 1, fnV p] rfl rfl (there_four hk) (by kernel_rfl) (by simp [Value.oneCell', fnV]) ?_
          refine ⟨KS.of hF.2, wpAnyH_done (by kernel_rfl) (NoPanic.normal ?_) _⟩
          go_wp2_with (fail)
          go_meet
          exact ⟨_, rfl, ⟨_, _, _, _, _, hF.1, hF.2⟩⟩
      · clear hi
        refine op_val (d := 11) (v := .pointer (some ⟨v35.heap.size, 0, none⟩)) (w' := v35.alloc (.cells #[.slice none 0 0, .slice none 0 0, .slice none 0 0, .nilFunc] 64)) rfl rfl rfl (by go_simp; try rfl) ?_
        simp only [Act.put, List.setIfInBounds_toArray, List.set_cons_zero, List.set_cons_succ]
        have hb : Below v35.heap.size v35 (v35.alloc (.cells #[.slice none 0 0, .slice none 0 0, .slice none 0 0, .nilFunc] 64)) := (Below.refl _ _).alloc (Nat.le_refl _) _
        have hk := heap_alloc_new v35 (.cells #[.slice none 0 0, .slice none 0 0, .slice none 0 0, .nilFunc] 64)
        have hs48 : (v35.alloc (.cells #[.slice none 0 0, .slice none 0 0, .slice none 0 0, .nilFunc] 64)).heap.size = v35.heap.size + 1 := by simp
        generalize v35.alloc (.cells #[.slice none 0 0, .slice none 0 0, .slice none 0 0, .nilFunc] 64) = v48 at hb hk hs48 ⊢
        obtain ⟨kb, hkb⟩ : ∃ g, g = v35.heap.size := ⟨_, rfl⟩
        rw [← hkb] at hk ⊢
        replace he := (hb.block _ (ltOf he)).trans he
        have hK48 : KS W0 v48 := hK35.call hb
        clear hb
        refine ⟨hK48, ?_⟩
        refine wpAnyH_all (rs := [1]) (by kernel_rfl) (by simp) ?_
        intro i hi
        obtain rfl : i = 1 := by simpa using hi
        clear hi
        refine op_call (d := 27) rfl rfl rfl (by go_simp) ((HE.out _ hK48.2).mono ?_)
        rintro e v49 ⟨g1, c1, rfl, hi1, hb, hl1, hu1⟩
        replace he := (hb.block _ (ltOf he)).trans he
        replace hk := (hb.block _ (ltOf hk)).trans hk
        have h1 := hi1.low hK48.2.size
        have hs49 := hb.size
        have hK49 : KS W0 v49 := hK48.call hb
        clear hi1 hb
        refine ⟨_, rfl, hK49, ?_⟩
        simp only [Act.put, List.setIfInBounds_toArray, List.set_cons_zero, List.set_cons_succ]
        refine wpAnyH_all (rs := [3]) (by kernel_rfl) (by simp) ?_
        intro i hi
        obtain rfl : i = 3 := by simpa using hi
        clear hi
        refine op_call (d := 29) rfl rfl rfl (by go_simp) ((HE.out _ hK49.2).mono ?_)
        rintro e v50 ⟨g3, c3, rfl, hi3, hb, hl3, hu3⟩
        replace h1 := h1.bel hb
        replace he := (hb.block _ (ltOf he)).trans he
        replace hk := (hb.block _ (ltOf hk)).trans hk
        have h3 := hi3.low hK49.2.size
        have hs50 := hb.size
        have hK50 : KS W0 v50 := hK49.call hb
        clear hi3 hb
        refine ⟨_, rfl, hK50, ?_⟩
        simp only [Act.put, List.setIfInBounds_toArray, List.set_cons_zero, List.set_cons_succ]
        refine wpAnyH_all (rs := [8]) (by kernel_rfl) (by simp) ?_
        intro i hi
        obtain rfl : i = 8 := by simpa using hi
        clear hi
        refine op_val (d := 34) (v := .agg #[.slice (some ⟨g1, 0, none⟩) N c1, .slice (some ⟨g3, 0, none⟩) N c3, .slice (some ⟨ge, 0, none⟩) 1 1, .func (Fn.func 30) #[] #[.pointer (some ⟨p, 0, none⟩), .pointer (some ⟨p + 1, 0, none⟩), .pointer (some ⟨p + 1 + 1, 0, none⟩)]]) (w' := v50) rfl rfl rfl (by go_simp; try rfl) ?_
        simp only [Act.put, List.setIfInBounds_toArray, List.set_cons_zero, List.set_cons_succ]
        refine ⟨hK50, ?_⟩
        refine wpAnyH_all (rs := [10]) (by kernel_rfl) (by simp) ?_
        intro i hi
        obtain rfl : i = 10 := by simpa using hi
        clear hi
        have hz0 := hK50.2.size
        have hF := fin_bend (p := p) hK50.2 hk h1 h3 (IS.one he (by omega)) (by omega) (by omega)
        refine op_store rfl rfl rfl _ _ _ rfl kb #[.slice (some ⟨g1, 0, none⟩) N c1, .slice (some ⟨g3, 0, none⟩) N c3, .slice (some ⟨ge, 0, none⟩) 1 1, fnV p] rfl rfl (there_four hk) (by kernel_rfl) (by simp [Value.oneCell', fnV]) ?_
        refine ⟨KS.of hF.2, wpAnyH_done (by kernel_rfl) (NoPanic.normal ?_) _⟩
        go_wp2_with (fail)
        go_meet
        exact ⟨_, rfl, ⟨_, _, _, _, _, hF.1, hF.2⟩⟩
    · clear hi
      refine op_val (d := 11) (v := .pointer (some ⟨Wd.heap.size, 0, none⟩)) (w' := Wd.alloc (.cells #[.slice none 0 0, .slice none 0 0, .slice none 0 0, .nilFunc] 64)) rfl rfl rfl (by go_simp; try rfl) ?_
      simp only [Act.put, List.setIfInBounds_toArray, List.set_cons_zero, List.set_cons_succ]
      have hb : Below Wd.heap.size Wd (Wd.alloc (.cells #[.slice none 0 0, .slice none 0 0, .slice none 0 0, .nilFunc] 64)) := (Below.refl _ _).alloc (Nat.le_refl _) _
      have hk := heap_alloc_new Wd (.cells #[.slice none 0 0, .slice none 0 0, .slice none 0 0, .nilFunc] 64)
      have hs53 : (Wd.alloc (.cells #[.slice none 0 0, .slice none 0 0, .slice none 0 0, .nilFunc] 64)).heap.size = Wd.heap.size + 1 := by simp
      generalize Wd.alloc (.cells #[.slice none 0 0, .slice none 0 0, .slice none 0 0, .nilFunc] 64) = v53 at hb hk hs53 ⊢
      obtain ⟨kb, hkb⟩ : ∃ g, g = Wd.heap.size := ⟨_, rfl⟩
      rw [← hkb] at hk ⊢
      have hK53 : KS W0 v53 := hS.call hb
      clear hb
      refine ⟨hK53, ?_⟩
      refine wpAnyH_all (rs := [1, 6]) (by kernel_rfl) (by simp) ?_
      intro i hi
      rcases (by simpa using hi : i = 1 ∨ i = 6) with rfl | rfl
      · clear hi
        refine op_call (d := 27) rfl rfl rfl (by go_simp) ((HE.out _ hK53.2).mono ?_)
        rintro e v54 ⟨g1, c1, rfl, hi1, hb, hl1, hu1⟩
        replace hk := (hb.block _ (ltOf hk)).trans hk
        have h1 := hi1.low hK53.2.size
        have hs54 := hb.size
        have hK54 : KS W0 v54 := hK53.call hb
        clear hi1 hb
        refine ⟨_, rfl, hK54, ?_⟩
        simp only [Act.put, List.setIfInBounds_toArray, List.set_cons_zero, List.set_cons_succ]
        refine wpAnyH_all (rs := [3, 6]) (by kernel_rfl) (by simp) ?_
        intro i hi
        rcases (by simpa using hi : i = 3 ∨ i = 6) with rfl | rfl
        · clear hi
          refine op_call (d := 29) rfl rfl rfl (by go_simp) ((HE.out _ hK54.2).mono ?_)
          rintro e v55 ⟨g3, c3, rfl, hi3, hb, hl3, hu3⟩
          replace h1 := h1.bel hb
          replace hk := (hb.block _ (ltOf hk)).trans hk
          have h3 := hi3.low hK54.2.size
          have hs55 := hb.size
          have hK55 : KS W0 v55 := hK54.call hb
          clear hi3 hb
          refine ⟨_, rfl, hK55, ?_⟩
          simp only [Act.put, List.setIfInBounds_toArray, List.set_cons_zero, List.set_cons_succ]
          refine wpAnyH_all (rs := [6]) (by kernel_rfl) (by simp) ?_
          intro i hi
          obtain rfl : i = 6 := by simpa using hi
          clear hi
          refine op_val (d := 32) (v := .slice (some ⟨v55.heap.size, 0, none⟩) 1 1) (w' := v55.alloc (.cells #[.int .i64 E] 2)) rfl rfl rfl (by go_simp; try rfl) ?_
          simp only [Act.put, List.setIfInBounds_toArray, List.set_cons_zero, List.set_cons_succ]
          have hb : Below v55.heap.size v55 (v55.alloc (.cells #[.int .i64 E] 2)) := (Below.refl _ _).alloc (Nat.le_refl _) _
          have he := heap_alloc_new v55 (.cells #[.int .i64 E] 2)
          have hs56 : (v55.alloc (.cells #[.int .i64 E] 2)).heap.size = v55.heap.size + 1 := by simp
          generalize v55.alloc (.cells #[.int .i64 E] 2) = v56 at hb he hs56 ⊢
          obtain ⟨ge, hge⟩ : ∃ g, g = v55.heap.size := ⟨_, rfl⟩
          rw [← hge] at he ⊢
          replace h1 := h1.bel hb
          replace h3 := h3.bel hb
          replace hk := (hb.block _ (ltOf hk)).trans hk
          have hK56 : KS W0 v56 := hK55.call hb
          clear hb
          refine ⟨hK56, ?_⟩
          refine wpAnyH_all (rs := [8]) (by kernel_rfl) (by simp) ?_
          intro i hi
          obtain rfl : i = 8 := by simpa using hi
          clear hi
          refine op_val (d := 34) (v := .agg #[.slice (some ⟨g1, 0, none⟩) N c1, .slice (some ⟨g3, 0, none⟩) N c3, .slice (some ⟨ge, 0, none⟩) 1 1, .func (Fn.func 30) #[] #[.pointer (some ⟨p, 0, none⟩), .pointer (some ⟨p + 1, 0, none⟩), .pointer (some ⟨p + 1 + 1, 0, none⟩)]]) (w' := v56) rfl rfl rfl (by go_simp; try rfl) ?_
          simp only [Act.put, List.setIfInBounds_toArray, List.set_cons_zero, List.set_cons_succ]
          refine ⟨hK56, ?_⟩
          refine wpAnyH_all (rs := [10]) (by kernel_rfl) (by simp) ?_
          intro i hi
          obtain rfl : i = 10 := by simpa using hi
          clear hi
          have hz0 := hK56.2.size
          have hF := fin_bend (p := p) hK56.2 hk h1 h3 (IS.one he (by omega)) (by omega) (by omega)
          refine op_store rfl rfl rfl _ _ _ rfl kb #[.slice (some ⟨g1, 0, none⟩) N c1, .slice (some ⟨g3, 0, none⟩) N c3, .slice (some ⟨ge, 0, none⟩) 1 1, fnV p] rfl rfl (there_four hk) (by kernel_rfl) (by simp [Value.oneCell', fnV]) ?_
          refine ⟨KS.of hF.2, wpAnyH_done (by kernel_rfl) (NoPanic.normal ?_) _⟩
          go_wp2_with (fail)
          go_meet
          exact ⟨_, rfl, ⟨_, _, _, _, _, hF.1, hF.2⟩⟩
        · clear hi
          refine op_val (d := 32) (v := .slice (some ⟨v54.heap.size, 0, none⟩) 1 1) (w' := v54.alloc (.cells #[.int .i64 E] 2)) rfl rfl rfl (by go_simp; try rfl) ?_
          simp only [Act.put, List.setIfInBounds_toArray, List.set_cons_zero, List.set_cons_succ]
          have hb : Below v54.heap.size v54 (v54.alloc (.cells #[.int .i64 E] 2)) := (Below.refl _ _).alloc (Nat.le_refl _) _
          have he := heap_alloc_new v54 (.cells #[.int .i64 E] 2)
          have hs59 : (v54.alloc (.cells #[.int .i64 E] 2)).heap.size = v54.heap.size + 1 := by simp
          generalize v54.alloc (.cells #[.int .i64 E] 2) = v59 at hb he hs59 ⊢
          obtain ⟨ge, hge⟩ : ∃ g, g = v54.heap.size := ⟨_, rfl⟩
          rw [← hge] at he ⊢
          replace h1 := h1.bel hb
          replace hk := (hb.block _ (ltOf hk)).trans hk
          have hK59 : KS W0 v59 := hK54.call hb
          clear hb
          refine ⟨hK59, ?_⟩
          refine wpAnyH_all (rs := [3]) (by kernel_rfl) (by simp) ?_
          intro i hi
          obtain rfl : i = 3 := by simpa using hi
          clear hi
          refine op_call (d := 29) rfl rfl rfl (by go_simp) ((HE.out _ hK59.2).mono ?_)
          rintro e v60 ⟨g3, c3, rfl, hi3, hb, hl3, hu3⟩
          replace h1 := h1.bel hb
          replace he := (hb.block _ (ltOf he)).trans he
          replace hk := (hb.block _ (ltOf hk)).trans hk
          have h3 := hi3.low hK59.2.size
          have hs60 := hb.size
          have hK60 : KS W0 v60 := hK59.call hb
          clear hi3 hb
          refine ⟨_, rfl, hK60, ?_⟩
          simp only [Act.put, List.setIfInBounds_toArray, List.set_cons_zero, List.set_cons_succ]
          refine wpAnyH_all (rs := [8]) (by kernel_rfl) (by simp) ?_
          intro i hi
          obtain rfl : i = 8 := by simpa using hi
          clear hi
          refine op_val (d := 34) (v := .agg #[.slice (some ⟨g1, 0, none⟩) N c1, .slice (some ⟨g3, 0, none⟩) N c3, .slice (some ⟨ge, 0, none⟩) 1 1, .func (Fn.func 30) #[] #[.pointer (some ⟨p, 0, none⟩), .pointer (some ⟨p + 1, 0, none⟩), .pointer (some ⟨p + 1 + 1, 0, none⟩)]]) (w' := v60) rfl rfl rfl (by go_simp; try rfl) ?_
          simp only [Act.put, List.setIfInBounds_toArray, List.set_cons_zero, List.set_cons_succ]
          refine ⟨hK60, ?_⟩
          refine wpAnyH_all (rs := [10]) (by kernel_rfl) (by simp) ?_
          intro i hi
          obtain rfl : i = 10 := by simpa using hi
          clear hi
          have hz0 := hK60.2.size
          have hF := fin_bend (p := p) hK60.2 hk h1 h3 (IS.one he (by omega)) (by omega) (by omega)
          refine op_store rfl rfl rfl _ _ _ rfl kb #[.slice (some ⟨g1, 0, none⟩) N c1, .slice (some ⟨g3, 0, none⟩) N c3, .slice (some ⟨ge, 0, none⟩) 1 1, fnV p] rfl rfl (there_four hk) (by kernel_rfl) (by simp [Value.oneCell', fnV]) ?_
          refine ⟨KS.of hF.2, wpAnyH_done (by kernel_rfl) (NoPanic.normal ?_) _⟩
          go_wp2_with (fail)
          go_meet
          exact ⟨_, rfl, ⟨_, _, _, _, _, hF.1, hF.2⟩⟩
      · clear hi
        refine op_val (d := 32) (v := .slice (some ⟨v53.heap.size, 0, none⟩) 1 1) (w' := v53.alloc (.cells #[.int .i64 E] 2)) rfl rfl rfl (by go_simp; try rfl) ?_
        simp only [Act.put, List.setIfInBounds_toArray, List.set_cons_zero, List.set_cons_succ]
        have hb : Below v53.heap.size v53 (v53.alloc (.cells #[.int .i64 E] 2)) := (Below.refl _ _).alloc (Nat.le_refl _) _
        have he := heap_alloc_new v53 (.cells #[.int .i64 E] 2)
        have hs63 : (v53.alloc (.cells #[.int .i64 E] 2)).heap.size = v53.heap.size + 1 := by simp
        generalize v53.alloc (.cells #[.int .i64 E] 2) = v63 at hb he hs63 ⊢
        obtain ⟨ge, hge⟩ : ∃ g, g = v53.heap.size := ⟨_, rfl⟩
        rw [← hge] at he ⊢
        replace hk := (hb.block _ (ltOf hk)).trans hk
        have hK63 : KS W0 v63 := hK53.call hb
        clear hb
        refine ⟨hK63, ?_⟩
        refine wpAnyH_all (rs := [1]) (by kernel_rfl) (by simp) ?_
        intro i hi
        obtain rfl : i = 1 := by simpa using hi
        clear hi
        refine op_call (d := 27) rfl rfl rfl (by go_simp) ((HE.out _ hK63.2).mono ?_)
        rintro e v64 ⟨g1, c1, rfl, hi1, hb, hl1, hu1⟩
        replace he := (hb.block _ (ltOf he)).trans he
        replace hk := (hb.block _ (ltOf hk)).trans hk
        have h1 := hi1.low hK63.2.size
        have hs64 := hb.size
        have hK64 : KS W0 v64 := hK63.call hb
        clear hi1 hb
        refine ⟨_, rfl, hK64, ?_⟩
        simp only [Act.put, List.setIfInBounds_toArray, List.set_cons_zero, List.set_cons_succ]
        refine wpAnyH_all (rs := [3]) (by kernel_rfl) (by simp) ?_
        intro i hi
        obtain rfl : i = 3 := by simpa using hi
        clear hi
        refine op_call (d := 29) rfl rfl rfl (by go_simp) ((HE.out _ hK64.2).mono ?_)
        rintro e v65 ⟨g3, c3, rfl, hi3, hb, hl3, hu3⟩
        replace h1 := h1.bel hb
        replace he := (hb.block _ (ltOf he)).trans he
        replace hk := (hb.block _ (ltOf hk)).trans hk
        have h3 := hi3.low hK64.2.size
        have hs65 := hb.size
        have hK65 : KS W0 v65 := hK64.call hb
        clear hi3 hb
        refine ⟨_, rfl, hK65, ?_⟩
        simp only [Act.put, List.setIfInBounds_toArray, List.set_cons_zero, List.set_cons_succ]
        refine wpAnyH_all (rs := [8]) (by kernel_rfl) (by simp) ?_
        intro i hi
        obtain rfl : i = 8 := by simpa using hi
        clear hi
        refine op_val (d := 34) (v := .agg #[.slice (some ⟨g1, 0, none⟩) N c1, .slice (some ⟨g3, 0, none⟩) N c3, .slice (some ⟨ge, 0, none⟩) 1 1, .func (Fn.func 30) #[] #[.pointer (some ⟨p, 0, none⟩), .pointer (some ⟨p + 1, 0, none⟩), .pointer (some ⟨p + 1 + 1, 0, none⟩)]]) (w' := v65) rfl rfl rfl (by go_simp; try rfl) ?_
        simp only [Act.put, List.setIfInBounds_toArray, List.set_cons_zero, List.set_cons_succ]
        refine ⟨hK65, ?_⟩
        refine wpAnyH_all (rs := [10]) (by kernel_rfl) (by simp) ?_
        intro i hi
        obtain rfl : i = 10 := by simpa using hi
        clear hi
        have hz0 := hK65.2.size
        have hF := fin_bend (p := p) hK65.2 hk h1 h3 (IS.one he (by omega)) (by omega) (by omega)
        refine op_store rfl rfl rfl _ _ _ rfl kb #[.slice (some ⟨g1, 0, none⟩) N c1, .slice (some ⟨g3, 0, none⟩) N c3, .slice (some ⟨ge, 0, none⟩) 1 1, fnV p] rfl rfl (there_four hk) (by kernel_rfl) (by simp [Value.oneCell', fnV]) ?_
        refine ⟨KS.of hF.2, wpAnyH_done (by kernel_rfl) (NoPanic.normal ?_) _⟩
        go_wp2_with (fail)
        go_meet
        exact ⟨_, rfl, ⟨_, _, _, _, _, hF.1, hF.2⟩⟩
  case rest =>
    obtain ⟨kb, rfl, hcut⟩ := hcut
    have HBC : Hid (Ben W0.heap.size kb N p (t, [E]) wc ∧ Below W0.heap.size W0 wc) := by
      obtain ⟨gb, cb, gt, ct, ev, h1, h2⟩ := hcut.out
      exact ⟨⟨gb, cb, gt, ct, ev, _, h1⟩, h2⟩
    clear hcut x0 xl y0 y1 yl HE
    have HRD : Hid (∀ (W W' : World) (j : Nat) (S : ClS), j < rn → Ben W0.heap.size kb N p S W → Below W0.heap.size W0 W → Below W.heap.size W W' → OkS len N (1 + N * j) S → Calls Try.prog 34 #[.pointer (some ⟨kb, 0, none⟩)] W' fun e w' => e = .returned (.bool (rdS t len ws K N S).1) ∧ Ben W0.heap.size kb N p (rdS t len ws K N S).2 w' ∧ Below W0.heap.size W0 w') := by
      intro W W' j S hj hb hW hbW hok
      have hW' : Below W0.heap.size W0 W' := hW.trans (hbW.mono hW.size)
      have h9 := HRUN.out
      have hmj : N * j ≤ 24 * 30 := Nat.mul_le_mul hN24 (by omega)
      refine (impl_rd (hb.next hbW) hok (by omega) hW'.size (by have := HW0.out.2.2.2.1; omega) (HW0.out.2.1.below hW' (by have := HW0.out.2.2.2.1; omega)) h9.2.2.2.1 h9.2.2.2.2.1 (fun V hV => ?_) (fun V hV => ?_)).mono ?_
      · exact H.out.1.below (HW0.out.1.trans ((hW'.trans hV).mono HW0.out.1.size))
      · exact H.out.2.1.below (HW0.out.1.trans ((hW'.trans hV).mono HW0.out.1.size))
      · rintro e w' ⟨h1, h2, h3⟩
        exact ⟨h1, h2, hW'.trans h3⟩
    go_wp2_with (fail)
    go_loopw [36] (fun i wr => ∃ (j : Nat) (S : ClS), j ≤ rn ∧ i = .int .i64 j ∧ Hid (Ben W0.heap.size kb N p S wr ∧ Below W0.heap.size W0 wr ∧ OkS len N (1 + N * j) S ∧ runS t len ws K N (rn - j) S = CS)) (fun i _ => rn - (intOf i).toNat)
    case atStart => exact ⟨0, (t, [E]), Nat.zero_le _, rfl, by first | exact ⟨HBC.out.1, HBC.out.2, HRUN.out.2.2.1, HRUN.out.2.1.symm⟩ | exact ⟨HBC.out.1.next (by (repeat' (first | (with_reducible exact Below.refl _ _) | (with_reducible assumption) | (with_reducible refine Below.setCell ?_ ?_ _) | (with_reducible refine Below.alloc ?_ ?_ _) | (with_reducible refine below_drewN ?_ _) | (with_reducible refine Below.drew ?_) | (with_reducible exact Nat.le_refl _) | omega | (simp; done) | (simp; omega)))), (by have h := HBC.out.2; (repeat' (first | (with_reducible exact Below.refl _ _) | (with_reducible assumption) | (with_reducible refine Below.setCell ?_ ?_ _) | (with_reducible refine Below.alloc ?_ ?_ _) | (with_reducible refine below_drewN ?_ _) | (with_reducible refine Below.drew ?_) | (with_reducible exact Nat.le_refl _) | omega | (simp; done) | (simp; omega)))), HRUN.out.2.2.1, HRUN.out.2.1.symm⟩⟩
    case round =>
      clear HBC
      obtain ⟨j, S, hj, rfl, hR⟩ := hrel
      by_cases hlt : j < rn
      · have b0 : (0 : Int) ≤ (j : Int) := by omega
        have b1 : (j : Int) < (rn : Int) := by omega
        obtain ⟨RD, hRDe⟩ : ∃ RD, RD = rdS t len ws K N S := ⟨_, rfl⟩
        have HST : Hid ((RD.1 = true → runS t len ws K N (rn - (j + 1)) RD.2 = CS) ∧ (RD.1 = false → RD.2 = CS) ∧ OkS len N (1 + N * (j + 1)) RD.2) := by
          have e1 : rn - j = (rn - (j + 1)) + 1 := by omega
          have h1 := hR.out.2.2.2
          rw [e1, runS, ← hRDe] at h1
          refine ⟨fun h => by rw [if_pos h] at h1; exact h1, fun h => by rw [if_neg (by simp [h])] at h1; exact h1, ?_⟩
          rw [hRDe]
          exact (rdS_ok N hR.out.2.2.1).mono (by rw [Nat.mul_add]; omega)
        go_wp2_with (fail)
        refine (HRD.out wr _ j S hlt hR.out.1 hR.out.2.1 (by (repeat' (first | (with_reducible exact Below.refl _ _) | (with_reducible assumption) | (with_reducible refine Below.setCell ?_ ?_ _) | (with_reducible refine Below.alloc ?_ ?_ _) | (with_reducible refine below_drewN ?_ _) | (with_reducible refine Below.drew ?_) | (with_reducible exact Nat.le_refl _) | omega | (simp; done) | (simp; omega)))) hR.out.2.2.1).mono ?_
        rintro e w2 ⟨rfl, hb2, hbb2⟩
        rw [← hRDe] at hb2 ⊢
        clear hRDe hR
        obtain ⟨tk, S2⟩ := RD
        have HB2 : Hid (Ben W0.heap.size kb N p S2 w2 ∧ Below W0.heap.size W0 w2) := ⟨hb2, hbb2⟩
        clear hb2 hbb2
        cases tk with
        | true =>
          have HS1 : Hid (runS t len ws K N (rn - (j + 1)) S2 = CS ∧ OkS len N (1 + N * (j + 1)) S2) := ⟨HST.out.1 rfl, HST.out.2.2⟩
          clear HST
          go_wp2_with (fail)
          go_roundw
          case rel => exact ⟨j + 1, S2, by omega, by go_num, ⟨HB2.out.1.next (by (repeat' (first | (with_reducible exact Below.refl _ _) | (with_reducible assumption) | (with_reducible refine Below.setCell ?_ ?_ _) | (with_reducible refine Below.alloc ?_ ?_ _) | (with_reducible refine below_drewN ?_ _) | (with_reducible refine Below.drew ?_) | (with_reducible exact Nat.le_refl _) | omega | (simp; done) | (simp; omega)))), (by have h := HB2.out.2; (repeat' (first | (with_reducible exact Below.refl _ _) | (with_reducible assumption) | (with_reducible refine Below.setCell ?_ ?_ _) | (with_reducible refine Below.alloc ?_ ?_ _) | (with_reducible refine below_drewN ?_ _) | (with_reducible refine Below.drew ?_) | (with_reducible exact Nat.le_refl _) | omega | (simp; done) | (simp; omega)))), HS1.out.2, HS1.out.1⟩⟩
          case measure => simp [intOf]; omega
        | false =>
          have hS2 : S2 = CS := HST.out.2.1 rfl
          subst hS2
          clear HST
          have HT : Hid (Ben W0.heap.size kb N p S2 w2 ∧ Below W0.heap.size W0 w2 ∧ S2.1.length ≤ 12) := ⟨HB2.out.1, HB2.out.2, by have h := runS_len (t := t) (len := len) (ws := ws) (K := K) (R := (rn : Int)); rw [← H.out.2.2.2.2.2.2.1] at h; exact h.1⟩
          clear HB2
          go_wp2_with (fail)
          obtain ⟨gb, cb, gt, ct, ev, T, hBD⟩ := HT.out.1
          obtain ⟨ea, ec, hev⟩ := hBD.er.form
          obtain ⟨en, hen⟩ : ∃ n, n = S2.2.length := ⟨_, rfl⟩
          rw [← hen] at hev
          subst hev
          obtain ⟨u0, u1, u2, u3, uf, ul⟩ := four_at hBD.kb_
          have HBD : Hid (BD W0.heap.size kb gb cb gt ct N p (.slice ea en ec) (flL S2.1) T S2.2 w2) := hBD
          clear uf hBD hen
          refine wp_region_holdsA (S := fun w' => w'.cell? ⟨kb, 0, none⟩ = some (.slice (some ⟨gb, 0, none⟩) N cb) ∧ w'.cell? ⟨kb, 2, none⟩ = some (.slice ea en ec)) (by kernel_rfl) ⟨u0, u2⟩ (fun hS => ?_)
          refine fl_takeA (i := 0) (d := 41) (v := .pointer (some ⟨kb, 0, none⟩)) rfl rfl rfl (by kernel_rfl) (by kernel_rfl) (by kernel_rfl) hS ?_ ?_
          · intro w' hk; obtain ⟨hk0, hk2⟩ := hk; go_simp
          simp only [Act.put, List.setIfInBounds_toArray, List.set_cons_zero, List.set_cons_succ]
          refine fl_takeA (i := 1) (d := 42) (v := .slice (some ⟨gb, 0, none⟩) N cb) rfl rfl rfl (by kernel_rfl) (by kernel_rfl) (by kernel_rfl) hS ?_ ?_
          · intro w' hk; obtain ⟨hk0, hk2⟩ := hk; go_simp
          simp only [Act.put, List.setIfInBounds_toArray, List.set_cons_zero, List.set_cons_succ]
          refine fl_takeA (i := 3) (d := 44) (v := .pointer (some ⟨kb, 2, none⟩)) rfl rfl rfl (by kernel_rfl) (by kernel_rfl) (by kernel_rfl) hS ?_ ?_
          · intro w' hk; obtain ⟨hk0, hk2⟩ := hk; go_simp
          simp only [Act.put, List.setIfInBounds_toArray, List.set_cons_zero, List.set_cons_succ]
          refine fl_takeA (i := 4) (d := 45) (v := .slice ea en ec) rfl rfl rfl (by kernel_rfl) (by kernel_rfl) (by kernel_rfl) hS ?_ ?_
          · intro w' hk; obtain ⟨hk0, hk2⟩ := hk; go_simp
          simp only [Act.put, List.setIfInBounds_toArray, List.set_cons_zero, List.set_cons_succ]
          have hD : Below w2.heap.size w2 w2.drew := (Below.refl _ _).drew
          refine wpAnyH_all (rs := [2]) (by kernel_rfl) (by simp) ?_
          intro i hi; obtain rfl := List.mem_singleton.1 hi; clear hi
          refine op_call (d := 43) rfl rfl rfl (by go_simp) ((impl_lb (ls := S2.1) (by have := HT.out.2.2; omega) (HBD.out.next hD).be.rg).mono ?_)
          rintro e w5 ⟨r5, rfl, ho5, hb5⟩
          obtain ⟨ra, rc, hrf⟩ := (OG.rg lnC_len ho5).form
          obtain ⟨rm, hrm⟩ : ∃ n, n = S2.1.length := ⟨_, rfl⟩
          rw [← hrm] at hrf
          subst hrf
          clear hrm
          have hD5 : Below w2.heap.size w2 w5 := hD.trans (hb5.mono (Nat.le_refl _))
          have hS5 : w5.cell? ⟨kb, 0, none⟩ = some (.slice (some ⟨gb, 0, none⟩) N cb) ∧ w5.cell? ⟨kb, 2, none⟩ = some (.slice ea en ec) := ⟨(World.cell?_of_block (a := ⟨kb, 0, none⟩) (hD5.block kb ul)).trans u0, (World.cell?_of_block (a := ⟨kb, 2, none⟩) (hD5.block kb ul)).trans u2⟩
          refine ⟨_, rfl, hS5, ?_⟩
          simp only [Act.put, List.setIfInBounds_toArray, List.set_cons_zero, List.set_cons_succ]
          refine wpAnyH_all (rs := [5]) (by kernel_rfl) (by simp) ?_
          intro i hi; obtain rfl := List.mem_singleton.1 hi; clear hi
          refine op_val (d := 46) (v := .agg #[.int .i64 0, .slice ra rm rc, .slice ea en ec]) (w' := w5) rfl rfl rfl (by go_simp; try rfl) ?_
          simp only [Act.put, List.setIfInBounds_toArray, List.set_cons_zero, List.set_cons_succ]
          refine ⟨hS5, wpAnyH_all (rs := [6]) (by kernel_rfl) (by simp) ?_⟩
          intro i hi; obtain rfl := List.mem_singleton.1 hi; clear hi
          have hB5 : Below W0.heap.size W0 w5 := HT.out.2.1.trans (hD5.mono HT.out.2.1.size)
          have g5 : w5.heap[p + 1 + 1 + 1]? = some (.cells #[.int .i64 0, .slice none 0 0, .slice none 0 0] 30) := (hB5.block _ (by have := HW0.out.2.2.2.1; omega)).trans HW0.out.2.2.1
          refine op_store rfl rfl rfl 30 _ _ rfl (p + 1 + 1 + 1) #[.int .i64 0, .slice ra rm rc, .slice ea en ec] (by go_simp) (by go_simp) (there_three g5) (by kernel_rfl) (by simp [Value.oneCell']) ?_
          have s2 := three_set g5 (.int .i64 0) (.slice ra rm rc) (.slice ea en ec)
          have HF : Hid (OG 57 2 lnC (w5.setCells (p + 1 + 1 + 1) 0 [.int .i64 0, .slice ra rm rc, .slice ea en ec]) w.heap.size (.slice ra rm rc) S2.1 ∧ IS (w5.setCells (p + 1 + 1 + 1) 0 [.int .i64 0, .slice ra rm rc, .slice ea en ec]) w.heap.size (.slice ea en ec) S2.2 ∧ Below w.heap.size w (w5.setCells (p + 1 + 1 + 1) 0 [.int .i64 0, .slice ra rm rc, .slice ea en ec])) := by
            have hp := HPW.out
            have hp4 := HW0.out.2.2.2.1
            have hbe := HBD.out.next hD
            have hsz : w5.heap.size ≤ (w5.setCells (p + 1 + 1 + 1) 0 [.int .i64 0, .slice ra rm rc, .slice ea en ec]).heap.size := by simp [World.setCells]
            have hszd := hD.size
            have hszt := HT.out.2.1.size
            refine ⟨?_, ?_, below_setCells _ (by omega) _ _ _ (HW0.out.1.trans (hB5.mono HW0.out.1.size))⟩
            · refine OG.low (OGkept ho5 (fun g hg => ?_)) (by have := HW0.out.1.size; omega)
              have := (OG.lt ho5 g hg).1
              exact cells_off _ _ (by omega) _
            · refine IS.low ((hbe.er.bel hb5).kept fun g hg => ?_) (HW0.out.1.size)
              have := (IS.lt hbe.er g hg).1
              exact cells_off _ _ (by omega) _
          have hkp : W0.heap.size ≤ kb := HBD.out.d1.2.2.2
          have hoff : (w5.setCells (p + 1 + 1 + 1) 0 [.int .i64 0, .slice ra rm rc, .slice ea en ec]).heap[kb]? = w5.heap[kb]? := cells_off _ _ (by have := HW0.out.2.2.2.1; omega) _
          refine ⟨⟨(World.cell?_of_block (a := ⟨kb, 0, none⟩) hoff).trans hS5.1, (World.cell?_of_block (a := ⟨kb, 2, none⟩) hoff).trans hS5.2⟩, wpAnyH_done (by kernel_rfl) (NoPanic.normal ?_) _⟩
          clear hoff
          generalize w5.setCells (p + 1 + 1 + 1) 0 [.int .i64 0, .slice ra rm rc, .slice ea en ec] = w6 at s2 HF ⊢
          obtain ⟨z0, z1, z2, zf, zl⟩ := cr_three s2
          clear s2 g5 hB5 hS5 hS ho5 hb5 zf HBD HT hD hD5 u0 u1 u2 u3 ul
          go_wp2
          try simp only [Exit.inBlock, Exit.then]
          refine bodyPost_ret (by simp [results, Try.results10, go_sem, z0, z1, z2]; try rfl) rfl ⟨_, _, by rw [HRUN.out.1], HF.out.1, HF.out.2.1, ?_⟩
          have hB := HF.out.2.2
          (repeat' (first | (with_reducible exact Below.refl _ _) | (with_reducible assumption) | (with_reducible refine Below.setCell ?_ ?_ _) | (with_reducible refine Below.alloc ?_ ?_ _) | (with_reducible refine below_drewN ?_ _) | (with_reducible refine Below.drew ?_) | (with_reducible exact Nat.le_refl _) | omega | (simp; done) | (simp; omega)))
      · have b1 : ¬ (j : Int) < (rn : Int) := by omega
        have hS : S = CS := by
          have h := hR.out.2.2.2
          have e1 : rn - j = 0 := by omega
          rw [e1, runS] at h
          exact h
        subst hS
        have HT : Hid (Ben W0.heap.size kb N p S wr ∧ Below W0.heap.size W0 wr ∧ S.1.length ≤ 12) := ⟨hR.out.1, hR.out.2.1, by have h := runS_len (t := t) (len := len) (ws := ws) (K := K) (R := (rn : Int)); rw [← H.out.2.2.2.2.2.2.1] at h; exact h.1⟩
        clear hR
        go_wp2_with (fail)
        obtain ⟨gb, cb, gt, ct, ev, T, hBD⟩ := HT.out.1
        obtain ⟨ea, ec, hev⟩ := hBD.er.form
        obtain ⟨en, hen⟩ : ∃ n, n = S.2.length := ⟨_, rfl⟩
        rw [← hen] at hev
        subst hev
        obtain ⟨u0, u1, u2, u3, uf, ul⟩ := four_at hBD.kb_
        have HBD : Hid (BD W0.heap.size kb gb cb gt ct N p (.slice ea en ec) (flL S.1) T S.2 wr) := hBD
        clear uf hBD hen
        refine wp_region_holdsA (S := fun w' => w'.cell? ⟨kb, 0, none⟩ = some (.slice (some ⟨gb, 0, none⟩) N cb) ∧ w'.cell? ⟨kb, 2, none⟩ = some (.slice ea en ec)) (by kernel_rfl) ⟨u0, u2⟩ (fun hS => ?_)
        refine fl_takeA (i := 0) (d := 41) (v := .pointer (some ⟨kb, 0, none⟩)) rfl rfl rfl (by kernel_rfl) (by kernel_rfl) (by kernel_rfl) hS ?_ ?_
        · intro w' hk; obtain ⟨hk0, hk2⟩ := hk; go_simp
        simp only [Act.put, List.setIfInBounds_toArray, List.set_cons_zero, List.set_cons_succ]
        refine fl_takeA (i := 1) (d := 42) (v := .slice (some ⟨gb, 0, none⟩) N cb) rfl rfl rfl (by kernel_rfl) (by kernel_rfl) (by kernel_rfl) hS ?_ ?_
        · intro w' hk; obtain ⟨hk0, hk2⟩ := hk; go_simp
        simp only [Act.put, List.setIfInBounds_toArray, List.set_cons_zero, List.set_cons_succ]
        refine fl_takeA (i := 3) (d := 44) (v := .pointer (some ⟨kb, 2, none⟩)) rfl rfl rfl (by kernel_rfl) (by kernel_rfl) (by kernel_rfl) hS ?_ ?_
        · intro w' hk; obtain ⟨hk0, hk2⟩ := hk; go_simp
        simp only [Act.put, List.setIfInBounds_toArray, List.set_cons_zero, List.set_cons_succ]
        refine fl_takeA (i := 4) (d := 45) (v := .slice ea en ec) rfl rfl rfl (by kernel_rfl) (by kernel_rfl) (by kernel_rfl) hS ?_ ?_
        · intro w' hk; obtain ⟨hk0, hk2⟩ := hk; go_simp
        simp only [Act.put, List.setIfInBounds_toArray, List.set_cons_zero, List.set_cons_succ]
        have hD : Below wr.heap.size wr wr.drew := (Below.refl _ _).drew
        refine wpAnyH_all (rs := [2]) (by kernel_rfl) (by simp) ?_
        intro i hi; obtain rfl := List.mem_singleton.1 hi; clear hi
        refine op_call (d := 43) rfl rfl rfl (by go_simp) ((impl_lb (ls := S.1) (by have := HT.out.2.2; omega) (HBD.out.next hD).be.rg).mono ?_)
        rintro e w5 ⟨r5, rfl, ho5, hb5⟩
        obtain ⟨ra, rc, hrf⟩ := (OG.rg lnC_len ho5).form
        obtain ⟨rm, hrm⟩ : ∃ n, n = S.1.length := ⟨_, rfl⟩
        rw [← hrm] at hrf
        subst hrf
        clear hrm
        have hD5 : Below wr.heap.size wr w5 := hD.trans (hb5.mono (Nat.le_refl _))
        have hS5 : w5.cell? ⟨kb, 0, none⟩ = some (.slice (some ⟨gb, 0, none⟩) N cb) ∧ w5.cell? ⟨kb, 2, none⟩ = some (.slice ea en ec) := ⟨(World.cell?_of_block (a := ⟨kb, 0, none⟩) (hD5.block kb ul)).trans u0, (World.cell?_of_block (a := ⟨kb, 2, none⟩) (hD5.block kb ul)).trans u2⟩
        refine ⟨_, rfl, hS5, ?_⟩
        simp only [Act.put, List.setIfInBounds_toArray, List.set_cons_zero, List.set_cons_succ]
        refine wpAnyH_all (rs := [5]) (by kernel_rfl) (by simp) ?_
        intro i hi; obtain rfl := List.mem_singleton.1 hi; clear hi
        refine op_val (d := 46) (v := .agg #[.int .i64 0, .slice ra rm rc, .slice ea en ec]) (w' := w5) rfl rfl rfl (by go_simp; try rfl) ?_
        simp only [Act.put, List.setIfInBounds_toArray, List.set_cons_zero, List.set_cons_succ]
        refine ⟨hS5, wpAnyH_all (rs := [6]) (by kernel_rfl) (by simp) ?_⟩
        intro i hi; obtain rfl := List.mem_singleton.1 hi; clear hi
        have hB5 : Below W0.heap.size W0 w5 := HT.out.2.1.trans (hD5.mono HT.out.2.1.size)
        have g5 : w5.heap[p + 1 + 1 + 1]? = some (.cells #[.int .i64 0, .slice none 0 0, .slice none 0 0] 30) := (hB5.block _ (by have := HW0.out.2.2.2.1; omega)).trans HW0.out.2.2.1
        refine op_store rfl rfl rfl 30 _ _ rfl (p + 1 + 1 + 1) #[.int .i64 0, .slice ra rm rc, .slice ea en ec] (by go_simp) (by go_simp) (there_three g5) (by kernel_rfl) (by simp [Value.oneCell']) ?_
        have s2 := three_set g5 (.int .i64 0) (.slice ra rm rc) (.slice ea en ec)
        have HF : Hid (OG 57 2 lnC (w5.setCells (p + 1 + 1 + 1) 0 [.int .i64 0, .slice ra rm rc, .slice ea en ec]) w.heap.size (.slice ra rm rc) S.1 ∧ IS (w5.setCells (p + 1 + 1 + 1) 0 [.int .i64 0, .slice ra rm rc, .slice ea en ec]) w.heap.size (.slice ea en ec) S.2 ∧ Below w.heap.size w (w5.setCells (p + 1 + 1 + 1) 0 [.int .i64 0, .slice ra rm rc, .slice ea en ec])) := by
          have hp := HPW.out
          have hp4 := HW0.out.2.2.2.1
          have hbe := HBD.out.next hD
          have hsz : w5.heap.size ≤ (w5.setCells (p + 1 + 1 + 1) 0 [.int .i64 0, .slice ra rm rc, .slice ea en ec]).heap.size := by simp [World.setCells]
          have hszd := hD.size
          have hszt := HT.out.2.1.size
          refine ⟨?_, ?_, below_setCells _ (by omega) _ _ _ (HW0.out.1.trans (hB5.mono HW0.out.1.size))⟩
          · refine OG.low (OGkept ho5 (fun g hg => ?_)) (by have := HW0.out.1.size; omega)
            have := (OG.lt ho5 g hg).1
            exact cells_off _ _ (by omega) _
          · refine IS.low ((hbe.er.bel hb5).kept fun g hg => ?_) (HW0.out.1.size)
            have := (IS.lt hbe.er g hg).1
            exact cells_off _ _ (by omega) _
        have hkp : W0.heap.size ≤ kb := HBD.out.d1.2.2.2
        have hoff : (w5.setCells (p + 1 + 1 + 1) 0 [.int .i64 0, .slice ra rm rc, .slice ea en ec]).heap[kb]? = w5.heap[kb]? := cells_off _ _ (by have := HW0.out.2.2.2.1; omega) _
        refine ⟨⟨(World.cell?_of_block (a := ⟨kb, 0, none⟩) hoff).trans hS5.1, (World.cell?_of_block (a := ⟨kb, 2, none⟩) hoff).trans hS5.2⟩, wpAnyH_done (by kernel_rfl) (NoPanic.normal ?_) _⟩
        clear hoff
        generalize w5.setCells (p + 1 + 1 + 1) 0 [.int .i64 0, .slice ra rm rc, .slice ea en ec] = w6 at s2 HF ⊢
        obtain ⟨z0, z1, z2, zf, zl⟩ := cr_three s2
        clear s2 g5 hB5 hS5 hS ho5 hb5 zf HBD HT hD hD5 u0 u1 u2 u3 ul
        go_wp2
        try simp only [Exit.inBlock, Exit.then]
        refine bodyPost_ret (by simp [results, Try.results10, go_sem, z0, z1, z2]; try rfl) rfl ⟨_, _, by rw [HRUN.out.1], HF.out.1, HF.out.2.1, ?_⟩
        have hB := HF.out.2.2
        (repeat' (first | (with_reducible exact Below.refl _ _) | (with_reducible assumption) | (with_reducible refine Below.setCell ?_ ?_ _) | (with_reducible refine Below.alloc ?_ ?_ _) | (with_reducible refine below_drewN ?_ _) | (with_reducible refine Below.drew ?_) | (with_reducible exact Nat.le_refl _) | omega | (simp; done) | (simp; omega)))

end Go.Proofs.Ytfjcebgknpccbab
