/- Proved here: sums of fractions (fracTimes), of the program: one after the other, up to the first code. -/
import Derived.Test.YtdidmjgilnhncabFsB
import Derived.StillTail
import Derived.Deep.DeepCutAuto
namespace Go.Proofs.Ytdidmjgilnhncab
open Go.RowKit
set_option linter.unusedVariables false
set_option linter.unusedSimpArgs false

/-- What is added. -/
structure FT where
  a : Fr
  t : Int
def fstQ (x : FT) : QR := muQ x.a (whole x.t)
def fstC (x : FT) : List Value := [.int .i64 x.a.n, .int .i64 x.a.d, .int .i64 x.t]
theorem fstC_len (x : FT) : (fstC x).length = 3 := rfl
theorem fstC_at {w : World} {g o : Nat} {x : FT} (h : ∀ i, i < 3 → w.cell? ⟨g, o + i, none⟩ = (fstC x)[i]?) : w.cell? ⟨g, o, none⟩ = some (.int .i64 x.a.n) ∧ w.cell? ⟨g, o + 1, none⟩ = some (.int .i64 x.a.d) ∧ w.cell? ⟨g, o + 2, none⟩ = some (.int .i64 x.t) :=
  ⟨h 0 (by omega), h 1 (by omega), h 2 (by omega)⟩
theorem fstQ_tidy (x : FT) : Tidy (fstQ x) := muQ_tidy _ _

set_option maxRecDepth 10000 in
set_option maxHeartbeats 3200000 in
theorem impl_worthT (x : FT) (w : World) :
    Calls Try.prog 114 #[.agg #[.int .i64 x.a.n, .int .i64 x.a.d, .int .i64 x.t]] w fun e w' => e = .returned (.agg #[.int .i64 (fstQ x).c, .int .i64 (fstQ x).n, .int .i64 (fstQ x).d]) ∧ Below w.heap.size w w' := by
  obtain ⟨q, hq⟩ : ∃ q, q = fstQ x := ⟨_, rfl⟩
  rw [← hq]
  have HW : Hid (∀ W, Calls Try.prog 45 #[.int .i64 x.t] W fun e w' => e = .returned (.agg #[.int .i64 x.t, .int .i64 1]) ∧ Below W.heap.size W w') := fun W => impl_whole x.t W
  have HM : Hid (∀ W, Calls Try.prog 115 #[.agg #[.int .i64 x.a.n, .int .i64 x.a.d], .agg #[.int .i64 x.t, .int .i64 1]] W fun e w' => e = .returned (.agg #[.int .i64 (q).c, .int .i64 (q).n, .int .i64 (q).d]) ∧ Below W.heap.size W w') := fun W => by rw [hq]; exact impl_muQ x.a (whole x.t) W
  clear hq
  obtain ⟨⟨a, b⟩, t⟩ := x
  obtain ⟨C, N, D⟩ := q
  obtain ⟨V, hV⟩ : ∃ V, V = (w.alloc (.cells #[.int .i64 a, .int .i64 b, .int .i64 t] 83)).alloc (.cells #[.int .i64 0, .int .i64 0, .int .i64 0] 38) := ⟨_, rfl⟩
  have k0 : V.heap[w.heap.size]? = some (.cells #[.int .i64 a, .int .i64 b, .int .i64 t] 83) := by rw [hV]; exact (Below.heap_alloc _ _ _ (by simp)).trans (heap_alloc_new w _)
  have k1 : V.heap[w.heap.size + 1]? = some (.cells #[.int .i64 0, .int .i64 0, .int .i64 0] 38) := by rw [hV]; have := heap_alloc_new (w.alloc (.cells #[.int .i64 a, .int .i64 b, .int .i64 t] 83)) (.cells #[.int .i64 0, .int .i64 0, .int .i64 0] 38); simpa using this
  have bV : Below w.heap.size w V := by rw [hV]; (repeat' (first | (with_reducible exact Below.refl _ _) | (with_reducible assumption) | (with_reducible refine Below.setCell ?_ ?_ _) | (with_reducible refine Below.alloc ?_ ?_ _) | (with_reducible refine below_drewN ?_ _) | (with_reducible refine Below.drew ?_) | (with_reducible exact Nat.le_refl _) | omega | (simp; done) | (simp; omega)))
  obtain ⟨p0, p1, p2, _, _, _, pl⟩ := three_c k0
  have HK : Hid (V.heap[w.heap.size + 1]? = some (.cells #[.int .i64 0, .int .i64 0, .int .i64 0] 38) ∧ Below w.heap.size w V) := ⟨k1, bV⟩
  clear k0 k1 bV
  go_enter Try.func114, Try.ntmps114
  go_upto_region 1 with fail
  rw [← hV]
  clear hV
  refine wp_region_holdsA (S := KA (w.heap.size + 1) V) (by kernel_rfl) (KA.of ((Below.refl _ _).drew)) (fun hS => ?_)
  have hl1 : w.heap.size < w.heap.size + 1 := by omega
  refine fl_takeA (i := 0) (d := 3) (v := .pointer (some ⟨w.heap.size, 0, none⟩)) rfl rfl rfl (by kernel_rfl) (by kernel_rfl) (by kernel_rfl) hS ?_ ?_
  · intro w' hk; unfold KA at hk; go_simp
  simp only [Act.put, List.setIfInBounds_toArray, List.set_cons_zero, List.set_cons_succ]
  refine fl_takeA (i := 1) (d := 4) (v := .agg #[.int .i64 a, .int .i64 b]) rfl rfl rfl (by kernel_rfl) (by kernel_rfl) (by kernel_rfl) hS ?_ ?_
  · intro w' hk; unfold KA at hk; go_simp
  simp only [Act.put, List.setIfInBounds_toArray, List.set_cons_zero, List.set_cons_succ]
  refine fl_takeA (i := 2) (d := 5) (v := .pointer (some ⟨w.heap.size, 2, none⟩)) rfl rfl rfl (by kernel_rfl) (by kernel_rfl) (by kernel_rfl) hS ?_ ?_
  · intro w' hk; unfold KA at hk; go_simp
  simp only [Act.put, List.setIfInBounds_toArray, List.set_cons_zero, List.set_cons_succ]
  refine fl_takeA (i := 3) (d := 6) (v := .int .i64 t) rfl rfl rfl (by kernel_rfl) (by kernel_rfl) (by kernel_rfl) hS ?_ ?_
  · intro w' hk; unfold KA at hk; go_simp
  simp only [Act.put, List.setIfInBounds_toArray, List.set_cons_zero, List.set_cons_succ]
  refine wpAnyH_all (rs := [4]) (by kernel_rfl) (by simp) ?_
  intro i hi
  obtain rfl : i = 4 := by simpa using hi
  refine op_call (d := 7) rfl rfl rfl (by go_simp) ((HW.out _).mono ?_)
  rintro e y1 ⟨rfl, hb1⟩
  have hK1 : Below V.heap.size V y1 := ((Below.refl _ _).drew).trans hb1
  refine ⟨_, rfl, KA.of (hK1.mono (Nat.le_of_lt (ltOf HK.out.1))), ?_⟩
  simp only [Act.put, List.setIfInBounds_toArray, List.set_cons_zero, List.set_cons_succ]
  refine wpAnyH_all (rs := [5]) (by kernel_rfl) (by simp) ?_
  intro i hi
  obtain rfl : i = 5 := by simpa using hi
  refine op_call (d := 8) rfl rfl rfl (by go_simp) ((HM.out _).mono ?_)
  rintro e y2 ⟨rfl, hb2⟩
  have hK2 : Below V.heap.size V y2 := hK1.trans (hb2.mono hK1.size)
  refine ⟨_, rfl, KA.of (hK2.mono (Nat.le_of_lt (ltOf HK.out.1))), ?_⟩
  simp only [Act.put, List.setIfInBounds_toArray, List.set_cons_zero, List.set_cons_succ]
  have j1 := (hK2.block _ (ltOf HK.out.1)).trans HK.out.1
  have hA : Below (w.heap.size + 1) V (y2.setCells (w.heap.size + 1) 0 (#[.int .i64 C, .int .i64 N, .int .i64 D] : Array Value).toList) := below_setCells _ (Nat.le_refl _) _ _ _ (hK2.mono (Nat.le_of_lt (ltOf HK.out.1)))
  have HZ : Hid ((y2.setCells (w.heap.size + 1) 0 (#[.int .i64 C, .int .i64 N, .int .i64 D] : Array Value).toList).heap[w.heap.size + 1]? = some (.cells #[.int .i64 C, .int .i64 N, .int .i64 D] 38) ∧ Below w.heap.size w (y2.setCells (w.heap.size + 1) 0 (#[.int .i64 C, .int .i64 N, .int .i64 D] : Array Value).toList)) := ⟨set3 j1, HK.out.2.trans (hA.mono (by omega))⟩
  refine wpAnyH_all (rs := [6]) (by kernel_rfl) (by simp) ?_
  intro i hi
  obtain rfl : i = 6 := by simpa using hi
  refine op_store rfl rfl rfl _ _ _ rfl (w.heap.size + 1) #[.int .i64 C, .int .i64 N, .int .i64 D] rfl rfl (there_three j1) (by kernel_rfl) (by simp [Value.oneCell']) ?_
  refine ⟨KA.of hA, wpAnyH_done (by kernel_rfl) (NoPanic.normal ?_) _⟩
  generalize y2.setCells (w.heap.size + 1) 0 (#[.int .i64 C, .int .i64 N, .int .i64 D] : Array Value).toList = W at HZ ⊢
  obtain ⟨r0, r1, r2, _, _, _, rl⟩ := three_c HZ.out.1
  clear hA j1 hK2 hb2 hK1 hb1 hS p0 p1 p2 pl HK HW HM
  go_wp2
  try simp only [Exit.inBlock, Exit.then]
  refine bodyPost_ret (by simp [results, Try.results114, go_sem, r0, r1, r2, rl]; try rfl) rfl ⟨rfl, ?_⟩
  have hb := HZ.out.2
  (repeat' (first | (with_reducible exact Below.refl _ _) | (with_reducible assumption) | (with_reducible refine Below.setCell ?_ ?_ _) | (with_reducible refine Below.alloc ?_ ?_ _) | (with_reducible refine below_drewN ?_ _) | (with_reducible refine Below.drew ?_) | (with_reducible exact Nat.le_refl _) | omega | (simp; done) | (simp; omega)))

set_option maxRecDepth 10000 in
set_option maxHeartbeats 6400000 in
theorem impl_fromT (s : Fr) {w : World} {v : Value} {ts : List FT} (hn : ts.length ≤ 1000000) (h : RG 3 fstC w v ts) :
    Calls Try.prog 69 #[v, .agg #[.int .i64 s.n, .int .i64 s.d]] w fun e w' => e = .returned (.agg #[.int .i64 (zq (sumA s (ts.map fstQ))).c, .int .i64 (zq (sumA s (ts.map fstQ))).n, .int .i64 (zq (sumA s (ts.map fstQ))).d]) ∧ Below w.heap.size w w' := by
  obtain ⟨a, c, rfl⟩ := h.form
  obtain ⟨n, hnn⟩ : ∃ n, n = ts.length := ⟨_, rfl⟩
  obtain ⟨q, hq⟩ : ∃ q, q = zq (sumA s (ts.map fstQ)) := ⟨_, rfl⟩
  rw [← hnn] at h hn ⊢
  rw [← hq]
  have H : Hid (RG 3 fstC w (.slice a n c) ts ∧ n = ts.length ∧ True) := ⟨h, hnn, trivial⟩
  have HQ : Hid (q = zq (sumA s (ts.map fstQ))) := hq
  clear h hnn hq
  obtain ⟨V, hV⟩ : ∃ V, V = ((w.alloc (.cells #[.int .i64 s.n, .int .i64 s.d] 31)).alloc (.cells #[.int .i64 0, .int .i64 0, .int .i64 0] 38)).alloc (.cells #[.int .i64 0, .int .i64 s.n, .int .i64 s.d] 38) := ⟨_, rfl⟩
  have HV : Hid (V.heap[w.heap.size + 1]? = some (.cells #[.int .i64 0, .int .i64 0, .int .i64 0] 38) ∧ V.heap[w.heap.size + 1 + 1]? = some (.cells #[.int .i64 0, .int .i64 s.n, .int .i64 s.d] 38) ∧ Below w.heap.size w V) := by
    refine ⟨?_, ?_, by rw [hV]; (repeat' (first | (with_reducible exact Below.refl _ _) | (with_reducible assumption) | (with_reducible refine Below.setCell ?_ ?_ _) | (with_reducible refine Below.alloc ?_ ?_ _) | (with_reducible refine below_drewN ?_ _) | (with_reducible refine Below.drew ?_) | (with_reducible exact Nat.le_refl _) | omega | (simp; done) | (simp; omega)))⟩
    · rw [hV]
      refine (Below.heap_alloc _ _ _ (by simp)).trans ?_
      have := heap_alloc_new (w.alloc (.cells #[.int .i64 s.n, .int .i64 s.d] 31)) (.cells #[.int .i64 0, .int .i64 0, .int .i64 0] 38)
      simpa using this
    · rw [hV]
      have := heap_alloc_new ((w.alloc (.cells #[.int .i64 s.n, .int .i64 s.d] 31)).alloc (.cells #[.int .i64 0, .int .i64 0, .int .i64 0] 38)) (.cells #[.int .i64 0, .int .i64 s.n, .int .i64 s.d] 38)
      simpa using this
  go_enter Try.func69, Try.ntmps69
  go_wp2
  rw [← hV]
  clear hV
  go_loopw [13] (fun i wr => ∃ k : Nat, k ≤ n ∧ i = .int .i64 k ∧ Hid (wr.heap[w.heap.size + 1]? = some (.cells #[.int .i64 0, .int .i64 0, .int .i64 0] 38) ∧ Below w.heap.size w wr ∧ ∃ N D : Int, psA s (ts.map fstQ) k = ⟨0, N, D⟩ ∧ wr.heap[w.heap.size + 1 + 1]? = some (.cells #[.int .i64 0, .int .i64 N, .int .i64 D] 38))) (fun i _ => n - (intOf i).toNat)
  case atStart => exact ⟨0, Nat.zero_le _, rfl, HV.out.1, HV.out.2.2, s.n, s.d, rfl, HV.out.2.1⟩
  case round =>
    clear HV
    obtain ⟨k, hk, rfl, hR⟩ := hrel
    obtain ⟨N, D, hps, hsum⟩ := hR.out.2.2
    by_cases hlt : k < n
    · have hjl : k < ts.length := by rw [← H.out.2.1]; exact hlt
      obtain ⟨g, o, c2, he, hg, hj⟩ := (H.out.1.below hR.out.2.1).pos (by omega)
      simp only [Value.slice.injEq] at he
      obtain ⟨rfl, hx1, hx2⟩ := he
      clear hx1 hx2
      obtain ⟨c0, c1, c2⟩ := fstC_at (hj k hjl)
      obtain ⟨x, hx⟩ : ∃ x, x = ts[k] := ⟨_, rfl⟩
      have hxm : x ∈ ts := by rw [hx]; exact List.getElem_mem hjl
      rw [← hx] at c0 c1 c2
      obtain ⟨r, hr⟩ : ∃ r, r = fstQ x := ⟨_, rfl⟩
      have HN : Hid (psA s (ts.map fstQ) (k + 1) = adA ⟨0, N, D⟩ r ∧ Tidy r) := by
        refine ⟨?_, by rw [hr]; exact fstQ_tidy x⟩
        rw [psA_succ _ _ _ (by simpa using hjl), hps, List.getElem_map, ← hx, hr]
      have HC : Hid (∀ W, Calls Try.prog 114 #[.agg #[.int .i64 x.a.n, .int .i64 x.a.d, .int .i64 x.t]] W fun e w' => e = .returned (.agg #[.int .i64 (r).c, .int .i64 (r).n, .int .i64 (r).d]) ∧ Below W.heap.size W w') := fun W => by rw [hr]; exact impl_worthT x W
      have HW : Hid (wr.heap[w.heap.size + 1]? = some (.cells #[.int .i64 0, .int .i64 0, .int .i64 0] 38) ∧ wr.heap[w.heap.size + 1 + 1]? = some (.cells #[.int .i64 0, .int .i64 N, .int .i64 D] 38) ∧ Below w.heap.size w wr) := ⟨hR.out.1, hsum, hR.out.2.1⟩
      clear hj hx hr hxm hps hsum hR
      obtain ⟨rc, rn, rd⟩ := r
      have b0 : (0 : Int) ≤ (k : Int) := by omega
      have b1 : (k : Int) < (n : Int) := by omega
      go_wp2_with (fail)
      refine (HC.out _).mono ?_
      rintro e w1 ⟨rfl, hb1⟩
      have HW1 : Hid (w1.heap[w.heap.size + 1]? = some (.cells #[.int .i64 0, .int .i64 0, .int .i64 0] 38) ∧ w1.heap[w.heap.size + 1 + 1]? = some (.cells #[.int .i64 0, .int .i64 N, .int .i64 D] 38) ∧ Below w.heap.size w w1) := by
        have hb2 : Below wr.heap.size wr w1 := (show Below wr.heap.size wr _ from by (repeat' (first | (with_reducible exact Below.refl _ _) | (with_reducible assumption) | (with_reducible refine Below.setCell ?_ ?_ _) | (with_reducible refine Below.alloc ?_ ?_ _) | (with_reducible refine below_drewN ?_ _) | (with_reducible refine Below.drew ?_) | (with_reducible exact Nat.le_refl _) | omega | (simp; done) | (simp; omega)))).trans (hb1.mono (by simp))
        exact ⟨(hb2.block _ (ltOf HW.out.1)).trans HW.out.1, (hb2.block _ (ltOf HW.out.2.1)).trans HW.out.2.1, HW.out.2.2.trans (hb2.mono HW.out.2.2.size)⟩
      clear hb1 HC HW c0 c1 c2 hg
      obtain ⟨p0, p1, p2, f0, f1, f2, pl⟩ := three_c HW1.out.1
      obtain ⟨q0, q1, q2, g0, g1, g2, ql⟩ := three_c HW1.out.2.1
      by_cases hrc : rc = 0
      case neg =>
        have HE : Hid (q = ⟨rc, rn, rd⟩) := by
          have h1 : (psA s (ts.map fstQ) (k + 1)).c = rc := by rw [HN.out.1]; exact adA_bad rfl hrc
          have h2 := sumA_stop (s := s) (ts := ts.map fstQ) (k := k + 1) (by simp; omega) (by rw [h1]; exact hrc)
          unfold Hid
          rw [HQ.out, h2, zq_not (by rw [h1]; exact hrc), h1]
          exact (zq_bad HN.out.2 hrc).symm
        have hA : (rc != 0) = true := by simpa using hrc
        have HB : Hid (Below w.heap.size w w1) := HW1.out.2.2
        clear HW1 HN hrc
        go_wp2
        try simp only [Exit.inBlock, Exit.then]
        refine bodyPost_ret (by simp [results, Try.results69, go_sem, p0, p1, p2, pl]; try rfl) rfl ⟨by rw [HE.out], ?_⟩
        have hb := HB.out
        (repeat' (first | (with_reducible exact Below.refl _ _) | (with_reducible assumption) | (with_reducible refine Below.setCell ?_ ?_ _) | (with_reducible refine Below.alloc ?_ ?_ _) | (with_reducible refine below_drewN ?_ _) | (with_reducible refine Below.drew ?_) | (with_reducible exact Nat.le_refl _) | omega | (simp; done) | (simp; omega)))
      obtain ⟨u, hu⟩ : ∃ u, u = adQ ⟨N, D⟩ ⟨rn, rd⟩ := ⟨_, rfl⟩
      have HN2 : Hid (psA s (ts.map fstQ) (k + 1) = u ∧ Tidy u) := by
        refine ⟨?_, by rw [hu]; exact adQ_tidy _ _⟩
        rw [HN.out.1, adA_ok rfl hrc, hu]; rfl
      have HAD : Hid (∀ W, Calls Try.prog 70 #[.agg #[.int .i64 N, .int .i64 D], .agg #[.int .i64 rn, .int .i64 rd]] W fun e w' => e = .returned (.agg #[.int .i64 (u).c, .int .i64 (u).n, .int .i64 (u).d]) ∧ Below W.heap.size W w') := fun W => by rw [hu]; exact impl_adQ ⟨N, D⟩ ⟨rn, rd⟩ W
      have hA : (rc != 0) = false := by rw [hrc]; rfl
      clear hu HN hrc
      obtain ⟨uc, un, ud⟩ := u
      go_wp2_with (fail)
      refine (HAD.out _).mono ?_
      rintro e w2 ⟨rfl, hb2⟩
      have HW2 : Hid (w2.heap[w.heap.size + 1]? = some (.cells #[.int .i64 0, .int .i64 0, .int .i64 0] 38) ∧ w2.heap[w.heap.size + 1 + 1]? = some (.cells #[.int .i64 0, .int .i64 N, .int .i64 D] 38) ∧ Below w.heap.size w w2) := by
        have hb3 : Below w1.heap.size w1 w2 := (show Below w1.heap.size w1 _ from by (repeat' (first | (with_reducible exact Below.refl _ _) | (with_reducible assumption) | (with_reducible refine Below.setCell ?_ ?_ _) | (with_reducible refine Below.alloc ?_ ?_ _) | (with_reducible refine below_drewN ?_ _) | (with_reducible refine Below.drew ?_) | (with_reducible exact Nat.le_refl _) | omega | (simp; done) | (simp; omega)))).trans (hb2.mono (by simp))
        exact ⟨(hb3.block _ (ltOf HW1.out.1)).trans HW1.out.1, (hb3.block _ (ltOf HW1.out.2.1)).trans HW1.out.2.1, HW1.out.2.2.trans (hb3.mono HW1.out.2.2.size)⟩
      clear hb2 HAD HW1 p0 p1 p2 f0 f1 f2 pl q0 q1 q2 g0 g1 g2 ql
      obtain ⟨p0, p1, p2, f0, f1, f2, pl⟩ := three_c HW2.out.1
      obtain ⟨q0, q1, q2, g0, g1, g2, ql⟩ := three_c HW2.out.2.1
      obtain ⟨W3, hW3⟩ : ∃ W, W = ((w2.setCell ⟨w.heap.size + 1 + 1, 0, none⟩ (.int .i64 uc)).setCell ⟨w.heap.size + 1 + 1, 1, none⟩ (.int .i64 un)).setCell ⟨w.heap.size + 1 + 1, 2, none⟩ (.int .i64 ud) := ⟨_, rfl⟩
      have HW3 : Hid (W3.heap[w.heap.size + 1]? = some (.cells #[.int .i64 0, .int .i64 0, .int .i64 0] 38) ∧ W3.heap[w.heap.size + 1 + 1]? = some (.cells #[.int .i64 uc, .int .i64 un, .int .i64 ud] 38) ∧ Below w.heap.size w W3) := by
        refine ⟨?_, ?_, ?_⟩
        · rw [hW3, set3_other (by omega)]; exact HW2.out.1
        · rw [hW3]; exact set3 HW2.out.2.1
        · rw [hW3]; have hb := HW2.out.2.2; (repeat' (first | (with_reducible exact Below.refl _ _) | (with_reducible assumption) | (with_reducible refine Below.setCell ?_ ?_ _) | (with_reducible refine Below.alloc ?_ ?_ _) | (with_reducible refine below_drewN ?_ _) | (with_reducible refine Below.drew ?_) | (with_reducible exact Nat.le_refl _) | omega | (simp; done) | (simp; omega)))
      by_cases huc : uc = 0
      case neg =>
        have HE : Hid (q = ⟨uc, un, ud⟩) := by
          have h2 := sumA_stop (s := s) (ts := ts.map fstQ) (k := k + 1) (by simp; omega) (by rw [HN2.out.1]; exact huc)
          unfold Hid
          rw [HQ.out, h2, HN2.out.1, zq_not (by exact huc)]
          exact (zq_bad HN2.out.2 huc).symm
        have hA2 : (uc != 0) = true := by simpa using huc
        have HB : Hid (Below w.heap.size w w2) := HW2.out.2.2
        clear HW2 HW3 HN2 huc hW3
        go_wp2
        try simp only [Exit.inBlock, Exit.then]
        refine bodyPost_ret (by simp [results, Try.results69, go_sem, p0, p1, p2, pl]; try rfl) rfl ⟨by rw [HE.out], ?_⟩
        have hb := HB.out
        (repeat' (first | (with_reducible exact Below.refl _ _) | (with_reducible assumption) | (with_reducible refine Below.setCell ?_ ?_ _) | (with_reducible refine Below.alloc ?_ ?_ _) | (with_reducible refine below_drewN ?_ _) | (with_reducible refine Below.drew ?_) | (with_reducible exact Nat.le_refl _) | omega | (simp; done) | (simp; omega)))
      have hA2 : (uc != 0) = false := by rw [huc]; rfl
      have HF : Hid (psA s (ts.map fstQ) (k + 1) = ⟨0, un, ud⟩ ∧ W3.heap[w.heap.size + 1]? = some (.cells #[.int .i64 0, .int .i64 0, .int .i64 0] 38) ∧ W3.heap[w.heap.size + 1 + 1]? = some (.cells #[.int .i64 0, .int .i64 un, .int .i64 ud] 38) ∧ Below w.heap.size w W3) := by
        refine ⟨by rw [HN2.out.1, huc], HW3.out.1, ?_, HW3.out.2.2⟩
        have h := HW3.out.2.1
        rw [huc] at h; exact h
      have HEQ : Hid (W3 = ((w2.setCell ⟨w.heap.size + 1 + 1, 0, none⟩ (.int .i64 uc)).setCell ⟨w.heap.size + 1 + 1, 1, none⟩ (.int .i64 un)).setCell ⟨w.heap.size + 1 + 1, 2, none⟩ (.int .i64 ud)) := hW3
      clear HN2 HW2 HW3 huc hW3
      go_wp2
      go_roundw
      case rel =>
        refine ⟨k + 1, by omega, by go_num, ?_⟩
        have h := HF.out
        rw [HEQ.out] at h
        exact ⟨h.2.1, h.2.2.2, un, ud, h.1, h.2.2.1⟩
      case measure => simp [intOf]; omega
    · have hkn : k = ts.length := by rw [← H.out.2.1]; omega
      have HE : Hid (q = ⟨0, N, D⟩) := by
        have e : psA s (ts.map fstQ) k = sumA s (ts.map fstQ) := by
          have h1 := psA_all s (ts.map fstQ)
          rw [List.length_map] at h1
          rw [hkn]; exact h1
        unfold Hid
        rw [HQ.out, ← e, hps]; rfl
      obtain ⟨p0, p1, p2, f0, f1, f2, pl⟩ := three_c hR.out.1
      obtain ⟨q0, q1, q2, g0, g1, g2, ql⟩ := three_c hsum
      have HB : Hid (Below w.heap.size w wr) := hR.out.2.1
      clear hR hsum hps hkn
      go_wp2
      try simp only [Exit.inBlock, Exit.then]
      refine bodyPost_ret (by simp [results, Try.results69, go_sem, p0, p1, p2, pl]; try rfl) rfl ⟨by rw [HE.out], ?_⟩
      have hb := HB.out
      (repeat' (first | (with_reducible exact Below.refl _ _) | (with_reducible assumption) | (with_reducible refine Below.setCell ?_ ?_ _) | (with_reducible refine Below.alloc ?_ ?_ _) | (with_reducible refine below_drewN ?_ _) | (with_reducible refine Below.drew ?_) | (with_reducible exact Nat.le_refl _) | omega | (simp; done) | (simp; omega)))

end Go.Proofs.Ytdidmjgilnhncab
