/- Proved here: PartsOf of the program. -/
import Derived.Test.YtlnhfgacgbdjaaaUfP
namespace Go.Proofs.Ytlnhfgacgbdjaaa
open Go.RowKit
set_option linter.unusedVariables false
set_option linter.unusedSimpArgs false

/-- Labels of a shape's boxes. -/
noncomputable def partF (s : List Bx) : Nat → Nat := Classical.choose (lab_ex s s.length)
theorem partF_lab (s : List Bx) : Lab (Tc s s.length 0) s.length (partF s) := Classical.choose_spec (lab_ex s s.length)
/-- The parts of a shape. -/
noncomputable def partsV (s : List Bx) : List (List Bx) := if shapeK s = 0 then partsL s (partF s) s.length s.length else []
theorem partsL_congr {s : List Bx} {F G : Nat → Nat} {n : Nat} (h : ∀ a, a < n → F a = G a) : ∀ k, k ≤ n → partsL s F n k = partsL s G n k := by
  intro k
  induction k with
  | zero => intro _; rfl
  | succ k ih =>
    intro hk
    simp only [partsL]
    rw [ih (by omega), h k (by omega), selB_congr (F := F) (G := G) (p := k) (q := k) fun a ha => by rw [h a ha]]
theorem partsL_uniq {s : List Bx} {n : Nat} {G : Nat → Nat} (hn : n = s.length) (hG : Lab (Tc s n 0) n G) : partsL s G n n = partsL s (partF s) n n := by
  subst hn
  exact partsL_congr (Lab.uniq (Tc_sym s _ 0) hG (partF_lab s)) _ (Nat.le_refl _)
theorem shapeK_zeroP {s : List Bx} (h : shapeK s = 0) : boxesK s = 0 ∧ inForm s.length [] s = true := by
  unfold shapeK at h
  split at h
  · rename_i h0
    refine ⟨h0, ?_⟩
    split at h
    · assumption
    · omega
  · rename_i h0; exact absurd h h0
theorem res_keptP {w w1 : World} {o : Obj} (hb : Below (w.alloc o).heap.size (w.alloc o) w1) : w1.heap[w.heap.size]? = some o ∧ w.heap.size < w1.heap.size ∧ Below w.heap.size w w1 := by
  have h1 := hb.size
  simp at h1
  refine ⟨(hb.block _ (by simp)).trans (heap_alloc_new w o), by omega, ?_⟩
  exact ((Below.refl _ _).alloc (Nat.le_refl _) _).trans (hb.mono (by simp))
theorem PL.keptP {w w' : World} {B : Nat} {v : Value} {ls : List (List Bx)} {vs : List Value} (h : PL w B v ls vs) (hb : ∀ g, B ≤ g → w'.heap[g]? = w.heap[g]?) : PL w' B v ls vs := by
  refine ⟨⟨h.o.1, ?_⟩, fun i hi => (h.bx i hi).kept fun g hg => hb g ((h.bx i hi).lt hg), h.ds⟩
  rcases h.o.2 with h' | ⟨g, cap, cur, rfl, hB, hg, hr⟩
  · exact Or.inl h'
  · refine Or.inr ⟨g, cap, cur, rfl, hB, ?_, hr⟩
    rw [hb g hB]; exact hg

set_option maxHeartbeats 4000000 in
theorem impl_partsOf {w : World} {a : Option Addr} {n c : Nat} {s : List Bx} (hn : s.length ≤ 1099511627776) (hc : n ≤ c) (h : RB w (.slice a n c) s) :
    Calls Try.prog 8 #[.slice a n c] w fun e w' => ∃ v vs, e = .returned (.agg #[.int .i64 (shapeK s), v]) ∧ PL w' w.heap.size v (partsV s) vs ∧ Below w.heap.size w w' := by
  have hlen : s.length = n := by obtain ⟨_, _, e⟩ := h.form; injection e with _ e2 _; exact e2.symm
  have H : Hid (RB w (.slice a n c) s ∧ s.length ≤ 1099511627776) := ⟨h, hn⟩
  have HN : Hid (n = s.length) := hlen.symm
  clear h hn hlen
  obtain ⟨z, hz⟩ : ∃ z, z = shapeK s := ⟨_, rfl⟩
  have HZ : Hid (z = shapeK s) := hz
  rw [← hz]
  clear hz
  by_cases hz0 : z = 0
  · have hsz := shapeK_zeroP (show shapeK s = 0 by rw [← HZ.out]; exact hz0)
    have hbz := boxesK_zero hsz.1
    have HL : Hid (s.length ≤ 150 ∧ Good s ∧ Band s) := ⟨hbz.1, hbz.2, Band.form (fun b hb => ⟨(hbz.2 b hb).1, (hbz.2 b hb).2.1⟩) hsz.2⟩
    have HE : Hid (partsV s = partsL s (partF s) n n) := by unfold Hid partsV; rw [if_pos (by rw [← HZ.out]; exact hz0), ← HN.out]
    have hn150 : n ≤ 150 := by rw [HN.out]; exact HL.out.1
    clear hbz hsz
    subst hz0
    go_enter Try.func8, Try.ntmps8
    go_wp2_with (fail)
    refine (impl_shape H.out.2 hc (H.out.1.below ((Below.refl _ _).alloc (Nat.le_refl _) _))).mono ?_
    rintro e w1 ⟨rfl, hb1⟩
    rw [← HZ.out]
    obtain ⟨hk1, hlt1, hB1⟩ := res_keptP hb1
    have HK1 : Hid (w1.heap[w.heap.size]? = some (.cells #[.int .i64 0, .slice none 0 0] 26) ∧ Below w.heap.size w w1) := ⟨hk1, hB1⟩
    clear hb1 hk1 hB1
    go_wp2_with (fail)
    refine (impl_partsIn (by omega) hc HL.out.2.1 HL.out.2.2 (H.out.1.below HK1.out.2)).mono ?_
    rintro e w2 ⟨v2, G, vs, rfl, hG, hpl, hb2⟩
    rw [partsL_uniq HN.out hG] at hpl
    have HP : Hid (PL w2 w1.heap.size v2 (partsV s) vs ∧ Below w.heap.size w w2) := ⟨by rw [HE.out]; exact hpl, HK1.out.2.trans (hb2.mono HK1.out.2.size)⟩
    have hk2 := (hb2.block w.heap.size hlt1).trans HK1.out.1
    obtain ⟨va, vc, hv2⟩ := hpl.form
    subst hv2
    obtain ⟨r0, r1, f0, f1, hlt2⟩ := two_cells hk2
    clear hb2 hpl hk2
    have hw1 := HK1.out.2.size
    go_wp2
    refine bodyPost_ret (by simp [results, Try.results8, go_sem, r0, r1, hlt2]; rfl) rfl ⟨_, vs, rfl, ?_, ?_⟩
    · refine PL.low (PL.keptP HP.out.1 ?_) hw1
      intro g hg
      simp only [heap_setCell_other _ _ _ _ (show g ≠ (⟨w.heap.size, 0, none⟩ : Addr).block from fun e => by have e' : g = w.heap.size := e; omega), heap_setCell_other _ _ _ _ (show g ≠ (⟨w.heap.size, 1, none⟩ : Addr).block from fun e => by have e' : g = w.heap.size := e; omega)]
    · have hb := HP.out.2
      (repeat' (first | (with_reducible exact Below.refl _ _) | (with_reducible assumption) | (with_reducible refine Below.setCell ?_ ?_ _) | (with_reducible refine Below.alloc ?_ ?_ _) | (with_reducible refine below_drewN ?_ _) | (with_reducible refine Below.drew ?_) | (with_reducible exact Nat.le_refl _) | omega | (simp; done) | (simp; omega)))
  · have HE : Hid (partsV s = []) := by unfold Hid partsV; rw [if_neg (by rw [← HZ.out]; exact hz0)]
    go_enter Try.func8, Try.ntmps8
    go_wp2_with (fail)
    refine (impl_shape H.out.2 hc (H.out.1.below ((Below.refl _ _).alloc (Nat.le_refl _) _))).mono ?_
    rintro e w1 ⟨rfl, hb1⟩
    rw [← HZ.out]
    obtain ⟨hk1, hlt1, hB1⟩ := res_keptP hb1
    have HB1 : Hid (Below w.heap.size w w1) := hB1
    obtain ⟨r0, r1, f0, f1, hlt2⟩ := two_cells hk1
    clear hb1 hk1 hB1
    go_wp2
    refine bodyPost_ret (by simp [results, Try.results8, go_sem, r0, r1, hlt2]; rfl) rfl ⟨_, [], rfl, ?_, ?_⟩
    · rw [HE.out]; exact PL.nil _ _
    · have hb := HB1.out
      (repeat' (first | (with_reducible exact Below.refl _ _) | (with_reducible assumption) | (with_reducible refine Below.setCell ?_ ?_ _) | (with_reducible refine Below.alloc ?_ ?_ _) | (with_reducible refine below_drewN ?_ _) | (with_reducible refine Below.drew ?_) | (with_reducible exact Nat.le_refl _) | omega | (simp; done) | (simp; omega)))

end Go.Proofs.Ytlnhfgacgbdjaaa
