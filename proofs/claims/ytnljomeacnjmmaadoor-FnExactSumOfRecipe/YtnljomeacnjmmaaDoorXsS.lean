/- Proved here: the sum of a recipe's text, of the model. -/
import Derived.Test.YtnljomeacnjmmaaDoorXsM
import Derived.Test.YtnljomeacnjmmaaDoorXfS
namespace Go.Proofs.YtnljomeacnjmmaaDoor
open Go.ChangeShapes Go.WideShapes Go.ChangeAt Go.RowKit Go.Joins
set_option linter.unusedVariables false
set_option linter.unusedSimpArgs false


set_option maxRecDepth 10000 in
set_option maxHeartbeats 6400000 in
theorem spec_so (r : Rr) (c : Rp) (W : World) (hs : smRp 1048576 c) (h : Rr1 W r c) :
    Calls Tryd.prog 5 #[.agg #[.string r.nm, .slice r.pa r.pn r.pc, .slice r.sa r.sn r.sc]] W fun e w' => e = .returned (.agg #[.int .i64 (soC c), .int .i64 (soV c)]) ∧ Below W.heap.size W w' := by
  obtain ⟨K, hK⟩ : ∃ K, K = rfK c := ⟨_, rfl⟩
  obtain ⟨T, hT⟩ : ∃ T, T = foS c := ⟨_, rfl⟩
  obtain ⟨C, hC⟩ : ∃ C, C = soC c := ⟨_, rfl⟩
  obtain ⟨D, hD⟩ : ∃ D, D = soV c := ⟨_, rfl⟩
  have HF : Hid (∀ X, Below W.heap.size W X → Calls Tryd.prog 12 #[.agg #[.string r.nm, .slice r.pa r.pn r.pc, .slice r.sa r.sn r.sc]] X fun e w' => e = .returned (.int .i64 K) ∧ Below X.heap.size X w') := fun X hb => by rw [hK]; exact spec_rf r c X hs (h.below hb)
  have HFO : Hid (∀ X, Below W.heap.size W X → Calls Tryd.prog 13 #[.agg #[.string r.nm, .slice r.pa r.pn r.pc, .slice r.sa r.sn r.sc]] X fun e w' => e = .returned (.string T) ∧ Below X.heap.size X w') := fun X hb => by rw [hT]; exact spec_fo r c X hs (h.below hb)
  have hTs : T.size ≤ 4000 := by rw [hT]; exact foS_size c
  rw [← hC, ← hD]
  have HC : Hid (C = (if K = 0 then (if T = ⟨#[]⟩ then 2 else 0) else K) ∧ D = if K = 0 then (if T = ⟨#[]⟩ then 0 else hsh T T.size) else 0) := by rw [hC, hD, hK, hT]; exact ⟨rfl, rfl⟩
  obtain ⟨V0, hV0⟩ : ∃ V, V = (W.alloc (.cells #[.string r.nm, .slice r.pa r.pn r.pc, .slice r.sa r.sn r.sc] 33)).alloc (.cells #[.int .i64 0, .int .i64 0] 28) := ⟨_, rfl⟩
  have HB0 : Hid (Below W.heap.size W V0 ∧ V0.heap[W.heap.size]? = some (.cells #[.string r.nm, .slice r.pa r.pn r.pc, .slice r.sa r.sn r.sc] 33) ∧ V0.heap[W.heap.size + 1]? = some (.cells #[.int .i64 0, .int .i64 0] 28)) := ⟨by rw [hV0]; (repeat' (first | (with_reducible exact Below.refl _ _) | (with_reducible assumption) | (with_reducible refine Below.setCell ?_ ?_ _) | (with_reducible refine Below.alloc ?_ ?_ _) | (with_reducible refine below_drewN ?_ _) | (with_reducible refine Below.drew ?_) | (with_reducible exact Nat.le_refl _) | omega | (simp; done) | (simp; omega))), by rw [hV0]; exact (Below.heap_alloc _ _ _ (by simp)).trans (heap_alloc_new _ _), by rw [hV0]; exact heap_alloc_at1 W _ _⟩
  have HV0 : Hid (V0 = (W.alloc (.cells #[.string r.nm, .slice r.pa r.pn r.pc, .slice r.sa r.sn r.sc] 33)).alloc (.cells #[.int .i64 0, .int .i64 0] 28)) := hV0
  clear hV0 hK hT hC hD h hs
  go_enter Tryd.func5, Tryd.ntmps5
  go_wp2_with (fail)
  rw [← HV0.out]
  clear HV0
  refine (HF.out _ HB0.out.1).mono ?_
  rintro e w1 ⟨rfl, hb1⟩
  have HB1 : Hid (Below W.heap.size W w1 ∧ w1.heap[W.heap.size]? = some (.cells #[.string r.nm, .slice r.pa r.pn r.pc, .slice r.sa r.sn r.sc] 33) ∧ w1.heap[W.heap.size + 1]? = some (.cells #[.int .i64 0, .int .i64 0] 28)) := ⟨HB0.out.1.trans (hb1.mono HB0.out.1.size), (hb1.block _ (ltQ HB0.out.2.1)).trans HB0.out.2.1, (hb1.block _ (ltQ HB0.out.2.2)).trans HB0.out.2.2⟩
  clear hb1 HB0 HF
  by_cases hk0 : K = 0
  case neg =>
    obtain ⟨h1, h2⟩ := HC.out
    rw [if_neg hk0] at h1 h2
    clear HC
    subst h1 h2
    have HB9 : Hid (Below W.heap.size W w1) := HB1.out.1
    have hk1 := HB1.out.2.2
    have q0 : w1.cell? ⟨W.heap.size + 1, 0, none⟩ = some (.int .i64 0) := by simp [World.cell?, hk1]
    have q1 : w1.cell? ⟨W.heap.size + 1, 1, none⟩ = some (.int .i64 0) := by simp [World.cell?, hk1]
    have qf0 : w1.frozen? ⟨W.heap.size + 1, 0, none⟩ = false := by simp [World.frozen?, hk1]
    have qf1 : w1.frozen? ⟨W.heap.size + 1, 1, none⟩ = false := by simp [World.frozen?, hk1]
    have ql := ltQ hk1
    clear hk1
    clear HB1 HFO
    go_wp2
    refine bodyPost_ret (by simp [results, Tryd.results5, go_sem, *]) rfl ⟨rfl, ?_⟩
    have hb := HB9.out
    (repeat' (first | (with_reducible exact Below.refl _ _) | (with_reducible assumption) | (with_reducible refine Below.setCell ?_ ?_ _) | (with_reducible refine Below.alloc ?_ ?_ _) | (with_reducible refine below_drewN ?_ _) | (with_reducible refine Below.drew ?_) | (with_reducible exact Nat.le_refl _) | omega | (simp; done) | (simp; omega)))

  have HC2 : Hid (C = (if T = ⟨#[]⟩ then 2 else 0) ∧ D = if T = ⟨#[]⟩ then 0 else hsh T T.size) := by
    obtain ⟨h1, h2⟩ := HC.out
    rw [if_pos hk0] at h1 h2
    exact ⟨h1, h2⟩
  clear HC
  subst hk0
  obtain ⟨p0, p1, p2, pf, pl⟩ := three_at HB1.out.2.1
  clear pf
  go_wp2_with (fail)
  clear p0 p1 p2 pl
  refine (HFO.out _ HB1.out.1).mono ?_
  rintro e w2 ⟨rfl, hb2⟩
  have HB2 : Hid (Below W.heap.size W w2 ∧ w2.heap[W.heap.size]? = some (.cells #[.string r.nm, .slice r.pa r.pn r.pc, .slice r.sa r.sn r.sc] 33) ∧ w2.heap[W.heap.size + 1]? = some (.cells #[.int .i64 0, .int .i64 0] 28)) := ⟨HB1.out.1.trans (hb2.mono HB1.out.1.size), (hb2.block _ (ltQ HB1.out.2.1)).trans HB1.out.2.1, (hb2.block _ (ltQ HB1.out.2.2)).trans HB1.out.2.2⟩
  clear hb2 HB1 HFO
  by_cases hte : T = ⟨#[]⟩
  · obtain ⟨h1, h2⟩ := HC2.out
    rw [if_pos hte] at h1 h2
    clear HC2
    subst h1 h2 hte
    have HB9 : Hid (Below W.heap.size W w2) := HB2.out.1
    have hk1 := HB2.out.2.2
    have q0 : w2.cell? ⟨W.heap.size + 1, 0, none⟩ = some (.int .i64 0) := by simp [World.cell?, hk1]
    have q1 : w2.cell? ⟨W.heap.size + 1, 1, none⟩ = some (.int .i64 0) := by simp [World.cell?, hk1]
    have qf0 : w2.frozen? ⟨W.heap.size + 1, 0, none⟩ = false := by simp [World.frozen?, hk1]
    have qf1 : w2.frozen? ⟨W.heap.size + 1, 1, none⟩ = false := by simp [World.frozen?, hk1]
    have ql := ltQ hk1
    clear hk1
    clear HB2
    go_wp2
    refine bodyPost_ret (by simp [results, Tryd.results5, go_sem, *]) rfl ⟨rfl, ?_⟩
    have hb := HB9.out
    (repeat' (first | (with_reducible exact Below.refl _ _) | (with_reducible assumption) | (with_reducible refine Below.setCell ?_ ?_ _) | (with_reducible refine Below.alloc ?_ ?_ _) | (with_reducible refine below_drewN ?_ _) | (with_reducible refine Below.drew ?_) | (with_reducible exact Nat.le_refl _) | omega | (simp; done) | (simp; omega)))

  have HC3 : Hid (C = 0 ∧ D = hsh T T.size) := by
    obtain ⟨h1, h2⟩ := HC2.out
    rw [if_neg hte] at h1 h2
    exact ⟨h1, h2⟩
  obtain ⟨e1, e2⟩ := ne_empty hte
  clear hte HC2
  go_wp2
  go_loopw [5, 6] (fun q i wr => ∃ (t : Nat) (z : Int), i = .int .i64 t ∧ t ≤ T.size ∧ q = .int .i64 z ∧ 0 ≤ z ∧ z < 998244353 ∧ Hid (z = hsh T t ∧ Below W.heap.size W wr ∧ wr.heap[W.heap.size]? = some (.cells #[.string r.nm, .slice r.pa r.pn r.pc, .slice r.sa r.sn r.sc] 33) ∧ wr.heap[W.heap.size + 1]? = some (.cells #[.int .i64 0, .int .i64 0] 28))) (fun _ i _ => T.size - (intOf i).toNat)
  case atStart => exact ⟨0, 1, rfl, Nat.zero_le _, rfl, by omega, by omega, rfl, HB2.out⟩
  case round =>
    clear HB2
    obtain ⟨t, z, rfl, htt, rfl, hz1, hz2, hR⟩ := hrel
    by_cases hlt : t < T.size
    · have hx0 : (0 : Int) ≤ (T[t].toNat : Int) := by omega
      have hx1 : (T[t].toNat : Int) < 256 := by have := T[t].toNat_lt; omega
      obtain ⟨S, hS⟩ : ∃ S, S = (z * 131 + (T[t].toNat : Int)) % 998244353 := ⟨_, rfl⟩
      have HZ : Hid (S = hsh T (t + 1)) := by
        unfold Hid
        rw [hS, hR.out.1]
        show _ = (hsh T t * 131 + nmB T t) % 998244353
        rw [nmB_at hlt]
      have hSb : 0 ≤ S ∧ S < 998244353 := by rw [HZ.out]; exact hsh_bnd _ _
      have hw1 : IntKind.i64.wrap (z * 131) = z * 131 := by rw [IntKind.wrap_i64]; omega
      have hw2 : IntKind.i64.wrap (z * 131 + (T[t].toNat : Int)) = z * 131 + (T[t].toNat : Int) := by rw [IntKind.wrap_i64]; omega
      have HS2 : Hid ((z * 131 + (T[t].toNat : Int)) % 998244353 = S ∧ (z * 131 + (T[t].toNat : Int)).tmod 998244353 = S) := ⟨hS.symm, by rw [Int.tmod_eq_emod_of_nonneg (by omega)]; exact hS.symm⟩
      have HB : Hid (Below W.heap.size W wr ∧ wr.heap[W.heap.size]? = some (.cells #[.string r.nm, .slice r.pa r.pn r.pc, .slice r.sa r.sn r.sc] 33) ∧ wr.heap[W.heap.size + 1]? = some (.cells #[.int .i64 0, .int .i64 0] 28)) := hR.out.2
      clear hR hS
      have b0 : (0 : Int) ≤ (t : Int) := by omega
      have b1 : (t : Int) < (T.size : Int) := by omega
      go_wp2
      go_roundw
      case rel => exact ⟨t + 1, S, by go_num, by omega, by first | (rw [← HS2.out.1]; done) | (rw [← HS2.out.2]; done) | (simp [HS2.out.1]; done), hSb.1, hSb.2, HZ.out, HB.out⟩
      case measure => simp [intOf]; omega
    · obtain ⟨h1, h2⟩ := HC3.out
      have h3 : D = z := by rw [h2, hR.out.1]; congr 1; omega
      have HB9 : Hid (Below W.heap.size W wr) := hR.out.2.1
      have hk1 := hR.out.2.2.2
      have q0 : wr.cell? ⟨W.heap.size + 1, 0, none⟩ = some (.int .i64 0) := by simp [World.cell?, hk1]
      have q1 : wr.cell? ⟨W.heap.size + 1, 1, none⟩ = some (.int .i64 0) := by simp [World.cell?, hk1]
      have qf0 : wr.frozen? ⟨W.heap.size + 1, 0, none⟩ = false := by simp [World.frozen?, hk1]
      have qf1 : wr.frozen? ⟨W.heap.size + 1, 1, none⟩ = false := by simp [World.frozen?, hk1]
      have ql := ltQ hk1
      clear hk1
      clear hR HC3 h2
      subst h1 h3
      go_wp2
      refine bodyPost_ret (by simp [results, Tryd.results5, go_sem, *]) rfl ⟨rfl, ?_⟩
      have hb := HB9.out
      (repeat' (first | (with_reducible exact Below.refl _ _) | (with_reducible assumption) | (with_reducible refine Below.setCell ?_ ?_ _) | (with_reducible refine Below.alloc ?_ ?_ _) | (with_reducible refine below_drewN ?_ _) | (with_reducible refine Below.drew ?_) | (with_reducible exact Nat.le_refl _) | omega | (simp; done) | (simp; omega)))

end Go.Proofs.YtnljomeacnjmmaaDoor
