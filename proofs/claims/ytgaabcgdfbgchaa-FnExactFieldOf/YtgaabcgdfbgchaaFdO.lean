/- Proved here: the program's FieldOf. -/
import Derived.Test.YtgaabcgdfbgchaaFdJ
import Derived.Test.YtgaabcgdfbgchaaInsC
namespace Go.Proofs.Ytgaabcgdfbgchaa
open Go.RowKit
set_option linter.unusedVariables false
set_option linter.unusedSimpArgs false

/-- The code of a field. -/
def ffK (n : Nat) (C F : Int) (s : List Int) (sh : Int) : Int := if lfK n C F s = 0 then (if -12 ≤ sh ∧ sh ≤ 12 then 0 else 3) else lfK n C F s
/-- Its list. -/
def ffL (mv : List Zv) (C F : Int) (s : List Int) (sh : Int) : List Zv := if ffK mv.length C F s sh = 0 then fdL (orL mv) mv.length C F sh s else []
theorem lfK_ok {n : Nat} {C F : Int} {s : List Int} (h : lfK n C F s = 0) : (1 ≤ n ∧ n ≤ 24) ∧ puF C F s = 0 := by
  unfold lfK at h
  split at h
  · rename_i h0
    refine ⟨?_, h⟩
    unfold mcK at h0
    split at h0
    · cases h0
    · split at h0
      · cases h0
      · omega
  · rename_i h0; exact absurd h h0
theorem two_blk (w : World) (o p : Obj) : ((w.alloc o).alloc p).heap[w.heap.size]? = some o ∧ ((w.alloc o).alloc p).heap[w.heap.size + 1]? = some p := by
  refine ⟨(Below.heap_alloc _ _ _ (by simp)).trans (heap_alloc_new w _), ?_⟩
  have := heap_alloc_new (w.alloc o) p
  simpa using this

/-- The box and the answer's variable. -/
structure FO (w V : World) (o : Obj) : Prop where
  bl : Below w.heap.size w V
  bx : V.heap[w.heap.size]? = some o
  an : V.heap[w.heap.size + 1]? = some (.cells #[.int .i64 0, .slice none 0 0] 32)
theorem lt_of_an {V : World} {k : Nat} {o : Obj} (h : V.heap[k]? = some o) : k < V.heap.size := by
  rcases Nat.lt_or_ge k V.heap.size with h' | h'
  · exact h'
  · rw [Array.getElem?_eq_none h'] at h; cases h
theorem FO.next {w V V' : World} {o : Obj} (h : FO w V o) (hb : Below V.heap.size V V') : FO w V' o :=
  ⟨h.bl.trans (hb.mono h.bl.size), (hb.block _ (by have := lt_of_an h.an; omega)).trans h.bx, (hb.block _ (lt_of_an h.an)).trans h.an⟩

set_option maxRecDepth 10000 in
set_option maxHeartbeats 6400000 in
theorem impl_fo (C F sh : Int) {w : World} {a ap : Option Addr} {n c m cp : Nat} {mk : List Zf} {s : List Int} (hm : RZs w (.slice a n c) mk) (hs : RdI w (.slice ap m cp) s) :
    Calls Try.prog 26 #[.slice a n c, .agg #[.int .i64 C, .int .i64 F, .slice ap m cp], .int .i64 sh] w fun e w' => ∃ v zs, e = .returned (.agg #[.int .i64 (ffK n C F s sh), v]) ∧ OZs w' w.heap.size v zs ∧ zs.map Zf.v = ffL (mk.map Zf.v) C F s sh ∧ Below w.heap.size w w' := by
  have hml : n = mk.length := hm.len
  obtain ⟨K, hK⟩ : ∃ K, K = lfK n C F s := ⟨_, rfl⟩
  obtain ⟨R, hR⟩ : ∃ R, R = ffK n C F s sh := ⟨_, rfl⟩
  obtain ⟨L, hL⟩ : ∃ L, L = ffL (mk.map Zf.v) C F s sh := ⟨_, rfl⟩
  have H : Hid (RZs w (.slice a n c) mk ∧ RdI w (.slice ap m cp) s ∧ K = lfK n C F s ∧ (R = if K = 0 then (if -12 ≤ sh ∧ sh ≤ 12 then 0 else 3) else K) ∧ L = if R = 0 then fdL (orL (mk.map Zf.v)) n C F sh s else []) :=
    ⟨hm, hs, hK, by rw [hR, hK]; rfl, by rw [hL, hR]; unfold ffL; rw [List.length_map, ← hml]⟩
  have HLF : Hid (∀ W, Below w.heap.size w W → Calls Try.prog 61 #[.slice a n c, .agg #[.int .i64 C, .int .i64 F, .slice ap m cp]] W fun e w' => e = .returned (.int .i64 K) ∧ Below W.heap.size W w') := fun W hb => by rw [hK]; exact impl_lf C F (hs.below hb)
  rw [← hR, ← hL]
  clear hm hs hml hK hR hL
  go_enter Try.func26, Try.ntmps26
  go_wp2_with (fail)
  refine (HLF.out _ (by (repeat' (first | (with_reducible exact Below.refl _ _) | (with_reducible assumption) | (with_reducible refine Below.setCell ?_ ?_ _) | (with_reducible refine Below.alloc ?_ ?_ _) | (with_reducible refine below_drewN ?_ _) | (with_reducible refine Below.drew ?_) | (with_reducible exact Nat.le_refl _) | omega | (simp; done) | (simp; omega))))).mono ?_
  rintro e w1 ⟨rfl, hb1⟩
  have F1 : Hid (FO w w1 (.cells #[.int .i64 C, .int .i64 F, .slice ap m cp] 45)) := by
    have h2 := two_blk w (.cells #[.int .i64 C, .int .i64 F, .slice ap m cp] 45) (.cells #[.int .i64 0, .slice none 0 0] 32)
    exact FO.next (⟨by (repeat' (first | (with_reducible exact Below.refl _ _) | (with_reducible assumption) | (with_reducible refine Below.setCell ?_ ?_ _) | (with_reducible refine Below.alloc ?_ ?_ _) | (with_reducible refine below_drewN ?_ _) | (with_reducible refine Below.drew ?_) | (with_reducible exact Nat.le_refl _) | omega | (simp; done) | (simp; omega))), h2.1, h2.2⟩ : FO w _ _) hb1
  clear hb1 HLF
  obtain ⟨b0, b1, b2, bf, bl⟩ := three_at F1.out.bx
  obtain ⟨p0, p1, pf, pl⟩ := z_two F1.out.an
  have pf0 := pf 0
  have pf1 := pf 1
  clear pf bf
  by_cases hK0 : K = 0
  case neg =>
    have HE : Hid (R = K ∧ L = []) := by
      have h3 : R = K := by rw [H.out.2.2.2.1, if_neg hK0]
      exact ⟨h3, by rw [H.out.2.2.2.2, if_neg (by rw [h3]; exact hK0)]⟩
    go_wp2
    refine bodyPost_ret (by simp [results, Try.results26, go_sem, p0, p1]; try rfl) rfl ⟨_, [], by rw [HE.out.1], World.ownsRow_nil _ _ _ _, by rw [HE.out.2]; rfl, ?_⟩
    have hB := F1.out.bl
    (repeat' (first | (with_reducible exact Below.refl _ _) | (with_reducible assumption) | (with_reducible refine Below.setCell ?_ ?_ _) | (with_reducible refine Below.alloc ?_ ?_ _) | (with_reducible refine below_drewN ?_ _) | (with_reducible refine Below.drew ?_) | (with_reducible exact Nat.le_refl _) | omega | (simp; done) | (simp; omega)))
  obtain ⟨r, hr⟩ : ∃ r, r = decide (-12 ≤ sh ∧ sh ≤ 12) := ⟨_, rfl⟩
  have HIN : Hid (∀ W, Calls Try.prog 55 #[.int .i64 sh, .int .i64 (-12), .int .i64 12] W fun e w' => e = .returned (.bool r) ∧ w' = W) := impl_insC sh (-12) 12 r hr
  have HG := lfK_ok (by rw [← H.out.2.2.1]; exact hK0)
  have HGG : Hid ((1 ≤ n ∧ n ≤ 24) ∧ puF C F s = 0 ∧ r = decide (-12 ≤ sh ∧ sh ≤ 12)) := ⟨HG.1, HG.2, hr⟩
  have HE0 : Hid (R = if -12 ≤ sh ∧ sh ≤ 12 then 0 else 3) := by unfold Hid; rw [H.out.2.2.2.1, if_pos hK0]
  clear HG hr
  subst hK0
  go_wp2_with (fail)
  refine (HIN.out _).mono ?_
  rintro e w2 ⟨rfl, hw2⟩
  subst w2
  cases r with
  | false =>
    have HE : Hid (R = 3 ∧ L = []) := by
      have hn : ¬ (-12 ≤ sh ∧ sh ≤ 12) := of_decide_eq_false HGG.out.2.2.symm
      have h3 : R = 3 := by rw [HE0.out, if_neg hn]
      exact ⟨h3, by rw [H.out.2.2.2.2, if_neg (by rw [h3]; decide)]⟩
    go_wp2
    refine bodyPost_ret (by simp [results, Try.results26, go_sem, p0, p1]; try rfl) rfl ⟨_, [], by rw [HE.out.1], World.ownsRow_nil _ _ _ _, by rw [HE.out.2]; rfl, ?_⟩
    have hB := F1.out.bl
    (repeat' (first | (with_reducible exact Below.refl _ _) | (with_reducible assumption) | (with_reducible refine Below.setCell ?_ ?_ _) | (with_reducible refine Below.alloc ?_ ?_ _) | (with_reducible refine below_drewN ?_ _) | (with_reducible refine Below.drew ?_) | (with_reducible exact Nat.le_refl _) | omega | (simp; done) | (simp; omega)))
  | true =>
    have hsh : -12 ≤ sh ∧ sh ≤ 12 := of_decide_eq_true HGG.out.2.2.symm
    have HE : Hid (R = 0 ∧ L = fdL (orL (mk.map Zf.v)) n C F sh s) := by
      have h3 : R = 0 := by rw [HE0.out, if_pos hsh]
      exact ⟨h3, by rw [H.out.2.2.2.2, if_pos h3]⟩
    have HC : Hid (0 ≤ C ∧ C ≤ 12 ∧ -12 ≤ sh ∧ sh ≤ 12) := by
      have := puF_good HGG.out.2.1
      exact ⟨this.1, this.2.1, hsh.1, hsh.2⟩
    clear hsh HE0 HIN
    go_wp2_with (fail)
    refine (impl_lens C F (H.out.1.below F1.out.bl) HGG.out.1.1 HGG.out.1.2).mono ?_
    rintro e w3 ⟨g1, g2, zs, ts, rfl, hz3, ht3, hv3, htu, hb3⟩
    have F3 : Hid (FO w w3 (.cells #[.int .i64 C, .int .i64 F, .slice ap m cp] 45) ∧ RCs w3 (.slice (some ⟨g1, 0, none⟩) n n) zs ∧ RCs w3 (.slice (some ⟨g2, 0, none⟩) n n) ts ∧ zs.map Zf.v = orL (mk.map Zf.v) ∧ TuL n 1 ts n) := ⟨F1.out.next hb3, hz3, ht3, hv3, htu⟩
    clear hz3 ht3 hv3 htu hb3 F1 b0 b1 b2 bl p0 p1 pl pf0 pf1
    go_wp2_with (fail)
    refine (impl_field C F sh F3.out.2.1 F3.out.2.2.1 (H.out.2.1.below F3.out.1.bl) F3.out.2.2.2.2 HGG.out.1.1 HGG.out.1.2 HC.out.1 HC.out.2.1 HC.out.2.2.1 HC.out.2.2.2).mono ?_
    rintro e w4 ⟨g4, fs, rfl, hf4, hv4, hb4⟩
    have F4 : Hid (FO w w4 (.cells #[.int .i64 C, .int .i64 F, .slice ap m cp] 45) ∧ RCs w4 (.slice (some ⟨g4, 0, none⟩) n n) fs ∧ fs.map Zf.v = L ∧ fs.length = n) := ⟨F3.out.1.next hb4, hf4.rg, by rw [hv4, F3.out.2.2.2.1, HE.out.2], hf4.rg.len.symm⟩
    clear hf4 hv4 hb4 F3
    go_wp2_with (fail)
    refine (impl_wave (by rw [F4.out.2.2.2]; have := HGG.out.1.2; omega) F4.out.2.1).mono ?_
    rintro e w5 ⟨g5, rfl, hz5, hb5⟩
    have F5 : Hid (FO w w5 (.cells #[.int .i64 C, .int .i64 F, .slice ap m cp] 45) ∧ OZs w5 (w.heap.size + 2) (.slice (some ⟨g5, 0, none⟩) fs.length fs.length) fs ∧ fs.map Zf.v = L) := ⟨F4.out.1.next hb5, OG.low hz5 (by have := lt_of_an F4.out.1.an; omega), F4.out.2.2.1⟩
    clear hz5 hb5 F4
    obtain ⟨p0, p1, pf, pl⟩ := z_two F5.out.1.an
    have pf0 := pf 0
    have pf1 := pf 1
    clear pf
    go_wp2
    refine bodyPost_ret (by simp [results, Try.results26, go_sem, p0, p1]; try rfl) rfl ⟨_, fs, by rw [HE.out.1], ?_, F5.out.2.2, ?_⟩
    · refine OG.low (B := w.heap.size + 1) (OZs.keepO F5.out.2.1 fun g hg => ?_) (by omega)
      have := (OG.lt F5.out.2.1 g hg).1
      rw [heap_setCell_other _ _ _ _ (by simp; omega), heap_setCell_other _ _ _ _ (by simp; omega)]
    · have hB := F5.out.1.bl
      (repeat' (first | (with_reducible exact Below.refl _ _) | (with_reducible assumption) | (with_reducible refine Below.setCell ?_ ?_ _) | (with_reducible refine Below.alloc ?_ ?_ _) | (with_reducible refine below_drewN ?_ _) | (with_reducible refine Below.drew ?_) | (with_reducible exact Nat.le_refl _) | omega | (simp; done) | (simp; omega)))

end Go.Proofs.Ytgaabcgdfbgchaa
