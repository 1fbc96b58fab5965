/- Proved here: MissOf of the document's model: moQ. -/
import Derived.Test.YtdidmjgilnhncabOrC
import Derived.Test.YtdidmjgilnhncabRdS
import Derived.Test.YtdidmjgilnhncabAcS
namespace Go.Proofs.Ytdidmjgilnhncab
open Go.RowKit
set_option linter.unusedVariables false
set_option linter.unusedSimpArgs false

set_option maxRecDepth 10000 in
set_option maxHeartbeats 25600000 in
theorem spec_mo (m : Mdl) {w : World} {v : Value} {s : List Mrk} (hn : s.length ≤ 1048576) (h : RG 4 maC w v s) :
    Calls Try.prog 13 #[v, .agg #[.int .i64 m.sx.n, .int .i64 m.sx.d, .int .i64 m.sy.n, .int .i64 m.sy.d, .int .i64 m.k.n, .int .i64 m.k.d, .int .i64 m.r.n, .int .i64 m.r.d]] w fun e w' => e = .returned (.agg #[.int .i64 (moQ s m).c, .int .i64 (moQ s m).n, .int .i64 (moQ s m).d]) ∧ Below w.heap.size w w' := by
  obtain ⟨a, c, rfl⟩ := h.form
  obtain ⟨n, hnn⟩ : ∃ n, n = s.length := ⟨_, rfl⟩
  obtain ⟨Q, hQ⟩ : ∃ Q, Q = moQ s m := ⟨_, rfl⟩
  rw [← hQ]
  have HQ : Hid (Q = moQ s m) := hQ
  clear hQ
  obtain ⟨C, hC⟩ : ∃ C, C = rdC s m := ⟨_, rfl⟩
  obtain ⟨L, hL⟩ : ∃ L, L = rdL s m := ⟨_, rfl⟩
  have HRD : Hid (∀ W, Below w.heap.size w W → Calls Try.prog 34 #[.slice a n c, .agg #[.int .i64 m.sx.n, .int .i64 m.sx.d, .int .i64 m.sy.n, .int .i64 m.sy.d, .int .i64 m.k.n, .int .i64 m.k.d, .int .i64 m.r.n, .int .i64 m.r.d]] W fun e w' => ∃ v', e = .returned (.agg #[.int .i64 C, v']) ∧ OG 31 2 frC w' W.heap.size v' L ∧ Below W.heap.size W w') := fun W hW => by rw [hC, hL, hnn]; exact spec_rd m hn (h.below hW)
  have HL : Hid (C = rdC s m ∧ L = rdL s m ∧ L.length ≤ 40) := ⟨hC, hL, by rw [hL]; exact rdL_len _ _⟩
  rw [← hnn] at h ⊢
  have H : Hid (RG 4 maC w (.slice a n c) s ∧ n = s.length) := ⟨h, hnn⟩
  clear h hnn hn hC hL
  obtain ⟨V, hV⟩ : ∃ V, V = (w.alloc (.cells #[.int .i64 m.sx.n, .int .i64 m.sx.d, .int .i64 m.sy.n, .int .i64 m.sy.d, .int .i64 m.k.n, .int .i64 m.k.d, .int .i64 m.r.n, .int .i64 m.r.d] 33)).alloc (.cells #[.int .i64 0, .int .i64 0, .int .i64 0] 38) := ⟨_, rfl⟩
  obtain ⟨a1, h⟩ : ∃ a, a = m.sx.n := ⟨_, rfl⟩
  obtain ⟨a2, h2⟩ : ∃ a, a = m.sx.d := ⟨_, rfl⟩
  obtain ⟨b1, h3⟩ : ∃ a, a = m.sy.n := ⟨_, rfl⟩
  obtain ⟨b2, h4⟩ : ∃ a, a = m.sy.d := ⟨_, rfl⟩
  obtain ⟨k1, h5⟩ : ∃ a, a = m.k.n := ⟨_, rfl⟩
  obtain ⟨k2, h6⟩ : ∃ a, a = m.k.d := ⟨_, rfl⟩
  obtain ⟨r1, h7⟩ : ∃ a, a = m.r.n := ⟨_, rfl⟩
  obtain ⟨r2, h8⟩ : ∃ a, a = m.r.d := ⟨_, rfl⟩
  rw [← h, ← h2, ← h3, ← h4, ← h5, ← h6, ← h7, ← h8] at hV HRD ⊢
  clear h h2 h3 h4 h5 h6 h7 h8
  have HV : Hid (V.heap[w.heap.size]? = some (.cells #[.int .i64 a1, .int .i64 a2, .int .i64 b1, .int .i64 b2, .int .i64 k1, .int .i64 k2, .int .i64 r1, .int .i64 r2] 33) ∧ V.heap[w.heap.size + 1]? = some (.cells #[.int .i64 0, .int .i64 0, .int .i64 0] 38) ∧ Below w.heap.size w V ∧ V.heap.size = w.heap.size + 2) := by
    refine ⟨?_, ?_, by rw [hV]; (repeat' (first | (with_reducible exact Below.refl _ _) | (with_reducible assumption) | (with_reducible refine Below.setCell ?_ ?_ _) | (with_reducible refine Below.alloc ?_ ?_ _) | (with_reducible refine below_drewN ?_ _) | (with_reducible refine Below.drew ?_) | (with_reducible exact Nat.le_refl _) | omega | (simp; done) | (simp; omega))), by rw [hV]; simp⟩
    · rw [hV]; exact (Below.heap_alloc _ _ _ (by simp)).trans (heap_alloc_new w _)
    · rw [hV]; have := heap_alloc_new (w.alloc (.cells #[.int .i64 a1, .int .i64 a2, .int .i64 b1, .int .i64 b2, .int .i64 k1, .int .i64 k2, .int .i64 r1, .int .i64 r2] 33)) (.cells #[.int .i64 0, .int .i64 0, .int .i64 0] 38); simpa using this
  obtain ⟨p0, p1, p2, p3, p4, p5, p6, p7, pl⟩ := eight_c HV.out.1
  go_enter Try.func13, Try.ntmps13
  go_upto_region 1 with fail
  rw [← hV]
  clear hV
  go_wp2_with (fail)
  refine (HRD.out _ HV.out.2.2.1).mono ?_
  rintro e w1 ⟨v', rfl, ho1, hb1⟩
  obtain ⟨ra, rc, hrv⟩ := (OG.rg frC_len ho1).form
  obtain ⟨rn, hrn⟩ : ∃ r, r = L.length := ⟨_, rfl⟩
  rw [← hrn] at hrv
  subst hrv
  have hr40 : rn ≤ 40 := by rw [hrn]; exact HL.out.2.2
  have HW1 : Hid (OG 31 2 frC w1 V.heap.size (.slice ra rn rc) L ∧ Below V.heap.size V w1 ∧ rn = L.length) := ⟨ho1, hb1, hrn⟩
  clear HRD ho1 hb1 hrn p0 p1 p2 p3 p4 p5 p6 p7 pl
  have jr := (HW1.out.2.1.block _ (ltOf HV.out.2.1)).trans HV.out.2.1
  obtain ⟨q0, q1, q2, g0, g1, g2, ql⟩ := three_c jr
  clear jr
  by_cases hC0 : C = 0
  case neg =>
    have HE : Hid (Q = ⟨C, 0, 0⟩) := by unfold Hid; rw [HQ.out, moQ_bad (by rw [← HL.out.1]; exact hC0), HL.out.1]
    have hA : (C != 0) = true := by simpa using hC0
    have HBZ : Hid (Below w.heap.size w w1) := HV.out.2.2.1.trans (HW1.out.2.1.mono HV.out.2.2.1.size)
    clear hC0 HW1 HV
    go_wp2
    try simp only [Exit.inBlock, Exit.then]
    refine bodyPost_ret (by simp [results, Try.results13, go_sem, q0, q1, q2, ql]; try rfl) rfl ⟨by rw [HE.out] <;> rfl, ?_⟩
    have hb := HBZ.out
    (repeat' (first | (with_reducible exact Below.refl _ _) | (with_reducible assumption) | (with_reducible refine Below.setCell ?_ ?_ _) | (with_reducible refine Below.alloc ?_ ?_ _) | (with_reducible refine below_drewN ?_ _) | (with_reducible refine Below.drew ?_) | (with_reducible exact Nat.le_refl _) | omega | (simp; done) | (simp; omega)))

  have hA : (C != 0) = false := by rw [hC0]; rfl
  have HE : Hid (Q = zq (sumA (whole 0) (sqL L))) := by unfold Hid; rw [HQ.out, moQ_ok (by rw [← HL.out.1]; exact hC0), HL.out.2.1]
  clear hC0 q0 q1 q2 g0 g1 g2 ql
  go_wp2_with (fail)
  refine (spec_int 0 _).mono ?_
  rintro e w2 ⟨rfl, hb2⟩
  obtain ⟨Kl, hKl⟩ : ∃ K, K = w1.heap.size := ⟨_, rfl⟩
  have HW2 : Hid (RG 2 frC w2 (.slice ra rn rc) L ∧ Below V.heap.size V w2 ∧ rn = L.length ∧ w2.heap[Kl]? = some (.cells #[.int .i64 C, .slice ra rn rc] 47)) := by
    have hb3 : Below w1.heap.size w1 w2 := (show Below w1.heap.size w1 _ from by (repeat' (first | (with_reducible exact Below.refl _ _) | (with_reducible assumption) | (with_reducible refine Below.setCell ?_ ?_ _) | (with_reducible refine Below.alloc ?_ ?_ _) | (with_reducible refine below_drewN ?_ _) | (with_reducible refine Below.drew ?_) | (with_reducible exact Nat.le_refl _) | omega | (simp; done) | (simp; omega)))).trans (hb2.mono (by simp))
    refine ⟨(OG.rg frC_len HW1.out.1).below hb3, HW1.out.2.1.trans (hb3.mono HW1.out.2.1.size), HW1.out.2.2, ?_⟩
    rw [hKl]; exact (hb2.block _ (by simp)).trans (heap_alloc_new w1 _)
  rw [← hKl]
  clear HW1 hb2 hKl
  obtain ⟨K, hK⟩ : ∃ K, K = w2.heap.size := ⟨_, rfl⟩
  obtain ⟨V3, hV3⟩ : ∃ V, V = w2.alloc (.cells #[.int .i64 0, .int .i64 0, .int .i64 1] 70) := ⟨_, rfl⟩
  have HV3 : Hid (Below w2.heap.size w2 V3 ∧ AC V3 K 0 (psA (whole 0) (sqL L) 0)) := by
    have hk : V3.heap[K]? = some (.cells #[.int .i64 0, .int .i64 0, .int .i64 1] 70) := by rw [hV3, hK]; exact heap_alloc_new w2 _
    exact ⟨by rw [hV3]; (repeat' (first | (with_reducible exact Below.refl _ _) | (with_reducible assumption) | (with_reducible refine Below.setCell ?_ ?_ _) | (with_reducible refine Below.alloc ?_ ?_ _) | (with_reducible refine below_drewN ?_ _) | (with_reducible refine Below.drew ?_) | (with_reducible exact Nat.le_refl _) | omega | (simp; done) | (simp; omega))), AC.mk3 hk⟩
  go_wp2
  rw [← hV3, ← hK]
  have HKS : Hid (K = w2.heap.size) := hK
  clear hV3 hK
  go_loopw [7] (fun i wr => ∃ k : Nat, k ≤ rn ∧ i = .int .i64 k ∧ Hid (Below w2.heap.size w2 wr ∧ AC wr K 0 (psA (whole 0) (sqL L) k))) (fun i _ => rn - (intOf i).toNat)
  case atStart => exact ⟨0, Nat.zero_le _, rfl, HV3.out⟩
  case round =>
    clear HV3
    obtain ⟨k, hk, rfl, hR⟩ := hrel
    have jl := (hR.out.1.block _ (ltOf HW2.out.2.2.2)).trans HW2.out.2.2.2
    have l0 := cellOf jl 0 rfl
    have l1 := cellOf jl 1 rfl
    have ll := ltOf jl
    have hKlK : Kl < K := by rw [HKS.out]; exact ltOf HW2.out.2.2.2
    clear jl
    by_cases hlt : k < rn
    · have hjl : k < L.length := by rw [← HW2.out.2.2.1]; exact hlt
      obtain ⟨g, o, c2, he, hg, hj⟩ := HW2.out.1.pos (by omega)
      simp only [Value.slice.injEq] at he
      obtain ⟨rfl, hx1, hx2⟩ := he
      clear hx1 hx2
      obtain ⟨d0, d1⟩ := frC_at (hj k hjl)
      have c0 := (hR.out.1.cell (p := ⟨g, o + k * 2, none⟩) hg).trans d0
      have c1 := (hR.out.1.cell (p := ⟨g, o + k * 2 + 1, none⟩) hg).trans d1
      have hgK : g < K := by rw [HKS.out]; exact hg
      obtain ⟨x, hx⟩ : ∃ x, x = L[k] := ⟨_, rfl⟩
      rw [← hx] at c0 c1
      obtain ⟨r, hr⟩ : ∃ r, r = muQ x x := ⟨_, rfl⟩
      obtain ⟨A, hA2⟩ : ∃ A, A = psA (whole 0) (sqL L) k := ⟨_, rfl⟩
      have HN : Hid (psA (whole 0) (sqL L) (k + 1) = adA A r) := by
        unfold Hid
        rw [psA_succ _ _ _ (by unfold sqL; simpa using hjl), ← hA2, hr, hx]
        congr 1
        unfold sqL
        rw [List.getElem_map]
      have HMU : Hid (∀ W, Calls Try.prog 37 #[.agg #[.int .i64 x.n, .int .i64 x.d], .agg #[.int .i64 x.n, .int .i64 x.d]] W fun e w' => e = .returned (.agg #[.int .i64 (r).c, .int .i64 (r).n, .int .i64 (r).d]) ∧ Below W.heap.size W w') := fun W => by rw [hr]; exact spec_muQ x x W
      have HWr : Hid (Below w2.heap.size w2 wr ∧ AC wr K 0 A) := by rw [hA2]; exact hR.out
      have hKW : K ≤ wr.heap.size := Nat.le_of_lt hR.out.2.lt
      clear hR hj hx hr hA2 d0 d1 hg
      have b0 : (0 : Int) ≤ (k : Int) := by omega
      have b1' : (k : Int) < (rn : Int) := by omega
      go_wp2_with (fail)
      refine wp_region_holdsA (S := KA K wr) (by kernel_rfl) (KA.of (Below.drew (Below.refl _ _))) (fun hS => ?_)
      refine fl_takeA (i := 0) (d := 26) (v := .pointer (some ⟨Kl, 1, none⟩)) rfl rfl rfl (by kernel_rfl) (by kernel_rfl) (by kernel_rfl) hS ?_ ?_
      · intro w' hk; unfold KA at hk; go_simp
      simp only [Act.put, List.setIfInBounds_toArray, List.set_cons_zero, List.set_cons_succ]
      refine fl_takeA (i := 1) (d := 27) (v := .slice (some ⟨g, o, none⟩) rn rc) rfl rfl rfl (by kernel_rfl) (by kernel_rfl) (by kernel_rfl) hS ?_ ?_
      · intro w' hk; unfold KA at hk; go_simp
      simp only [Act.put, List.setIfInBounds_toArray, List.set_cons_zero, List.set_cons_succ]
      refine fl_takeA (i := 2) (d := 28) (v := .int .i64 (k : Int)) rfl rfl rfl (by kernel_rfl) (by kernel_rfl) (by kernel_rfl) hS ?_ ?_
      · intro w' hk; unfold KA at hk; go_simp
      simp only [Act.put, List.setIfInBounds_toArray, List.set_cons_zero, List.set_cons_succ]
      refine fl_takeA (i := 3) (d := 29) (v := .pointer (some ⟨g, o + k * 2, none⟩)) rfl rfl rfl (by kernel_rfl) (by kernel_rfl) (by kernel_rfl) hS ?_ ?_
      · intro w' hk; unfold KA at hk; go_simp
      simp only [Act.put, List.setIfInBounds_toArray, List.set_cons_zero, List.set_cons_succ]
      refine fl_takeA (i := 4) (d := 30) (v := .agg #[.int .i64 x.n, .int .i64 x.d]) rfl rfl rfl (by kernel_rfl) (by kernel_rfl) (by kernel_rfl) hS ?_ ?_
      · intro w' hk; unfold KA at hk; go_simp
      simp only [Act.put, List.setIfInBounds_toArray, List.set_cons_zero, List.set_cons_succ]
      refine fl_takeA (i := 5) (d := 31) (v := .pointer (some ⟨Kl, 1, none⟩)) rfl rfl rfl (by kernel_rfl) (by kernel_rfl) (by kernel_rfl) hS ?_ ?_
      · intro w' hk; unfold KA at hk; go_simp
      simp only [Act.put, List.setIfInBounds_toArray, List.set_cons_zero, List.set_cons_succ]
      refine fl_takeA (i := 6) (d := 32) (v := .slice (some ⟨g, o, none⟩) rn rc) rfl rfl rfl (by kernel_rfl) (by kernel_rfl) (by kernel_rfl) hS ?_ ?_
      · intro w' hk; unfold KA at hk; go_simp
      simp only [Act.put, List.setIfInBounds_toArray, List.set_cons_zero, List.set_cons_succ]
      refine fl_takeA (i := 7) (d := 33) (v := .int .i64 (k : Int)) rfl rfl rfl (by kernel_rfl) (by kernel_rfl) (by kernel_rfl) hS ?_ ?_
      · intro w' hk; unfold KA at hk; go_simp
      simp only [Act.put, List.setIfInBounds_toArray, List.set_cons_zero, List.set_cons_succ]
      refine fl_takeA (i := 8) (d := 34) (v := .pointer (some ⟨g, o + k * 2, none⟩)) rfl rfl rfl (by kernel_rfl) (by kernel_rfl) (by kernel_rfl) hS ?_ ?_
      · intro w' hk; unfold KA at hk; go_simp
      simp only [Act.put, List.setIfInBounds_toArray, List.set_cons_zero, List.set_cons_succ]
      refine fl_takeA (i := 9) (d := 35) (v := .agg #[.int .i64 x.n, .int .i64 x.d]) rfl rfl rfl (by kernel_rfl) (by kernel_rfl) (by kernel_rfl) hS ?_ ?_
      · intro w' hk; unfold KA at hk; go_simp
      simp only [Act.put, List.setIfInBounds_toArray, List.set_cons_zero, List.set_cons_succ]
      refine wpAnyH_all (rs := [10]) (by kernel_rfl) (by simp) ?_
      intro i hi
      obtain rfl : i = 10 := by simpa using hi
      refine op_call (d := 36) rfl rfl rfl (by go_simp) ((HMU.out _).mono ?_)
      rintro e y1 ⟨rfl, hb1⟩
      have hL1 : Below wr.heap.size wr y1 := ((Below.refl _ _).drew).trans hb1
      have hK1 := KA.of (hL1.mono hKW)
      refine ⟨_, rfl, hK1, ?_⟩
      simp only [Act.put, List.setIfInBounds_toArray, List.set_cons_zero, List.set_cons_succ]
      have hA1 : AC y1 K 0 A := HWr.out.2.keep (hL1.block _ HWr.out.2.lt)
      refine wpAnyH_all (rs := [11]) (by kernel_rfl) (by simp) ?_
      intro i hi
      obtain rfl : i = 11 := by simpa using hi
      refine op_call (d := 37) rfl rfl rfl (by go_simp) ((spec_add (r := r) hA1).mono ?_)
      rintro e y2 ⟨rfl, hD⟩
      have hK2 := KA.of ((hL1.mono hKW).trans (hD.chg.below (Nat.le_refl _) (Nat.le_trans hKW hL1.size)))
      refine ⟨_, rfl, hK2, ?_⟩
      simp only [Act.put, List.setIfInBounds_toArray, List.set_cons_zero, List.set_cons_succ]
      refine wpAnyH_done (by kernel_rfl) (NoPanic.normal ?_) _
      have HF : Hid (Below w2.heap.size w2 y2 ∧ AC y2 K 0 (psA (whole 0) (sqL L) (k + 1))) := by
        rw [HN.out]
        refine ⟨?_, hD.ac⟩
        have h1 : Below K wr y2 := (hL1.mono hKW).trans (hD.chg.below (Nat.le_refl _) (Nat.le_trans hKW hL1.size))
        rw [HKS.out] at h1
        exact HWr.out.1.trans h1
      clear hK1 hK2 hL1 hb1 hA1 hD hS HWr HMU HN c0 c1 l0 l1 ll
      go_wp2
      go_roundw
      case rel => exact ⟨k + 1, by omega, by go_num, HF.out⟩
      case measure => simp [intOf]; omega
    · have HZ : Hid (Q = zq (psA (whole 0) (sqL L) k)) := by
        have e := psA_all (whole 0) (sqL L)
        have hl : (sqL L).length = rn := by unfold sqL; rw [List.length_map]; exact HW2.out.2.2.1.symm
        unfold Hid; rw [HE.out, ← e, hl, show k = rn by omega]
      have HB : Hid (Below V.heap.size V wr) := HW2.out.2.1.trans (hR.out.1.mono HW2.out.2.1.size)
      obtain ⟨A, hA2⟩ : ∃ A, A = psA (whole 0) (sqL L) k := ⟨_, rfl⟩
      have HA3 : Hid (AC wr K 0 A) := by rw [hA2]; exact hR.out.2
      rw [← hA2] at HZ
      clear hR hA2 HE
      have jr := (HB.out.block _ (ltOf HV.out.2.1)).trans HV.out.2.1
      obtain ⟨q0, q1, q2, g0, g1, g2, ql⟩ := three_c jr
      clear jr
      obtain ⟨Ac, An, Ad⟩ := A
      have s0 : wr.cell? ⟨K, 0, none⟩ = some (.int .i64 Ac) := HA3.out.c0
      have s1 : wr.cell? ⟨K, 1, none⟩ = some (.int .i64 An) := HA3.out.c1
      have s2 : wr.cell? ⟨K, 2, none⟩ = some (.int .i64 Ad) := HA3.out.c2
      have sl := HA3.out.lt
      have HBZ : Hid (Below w.heap.size w wr) := HV.out.2.2.1.trans (HB.out.mono HV.out.2.2.1.size)
      clear HA3 HB HV HW2
      by_cases hAc : Ac = 0
      · have HE2 : Hid (Q = ⟨0, An, Ad⟩) := by unfold Hid; rw [HZ.out, hAc]; rfl
        have hA4 : (Ac != 0) = false := by rw [hAc]; rfl
        clear HZ hAc
        go_wp2
        try simp only [Exit.inBlock, Exit.then]
        refine bodyPost_ret (by simp [results, Try.results13, go_sem, q0, q1, q2, ql]; try rfl) rfl ⟨by rw [HE2.out] <;> rfl, ?_⟩
        have hb := HBZ.out
        (repeat' (first | (with_reducible exact Below.refl _ _) | (with_reducible assumption) | (with_reducible refine Below.setCell ?_ ?_ _) | (with_reducible refine Below.alloc ?_ ?_ _) | (with_reducible refine below_drewN ?_ _) | (with_reducible refine Below.drew ?_) | (with_reducible exact Nat.le_refl _) | omega | (simp; done) | (simp; omega)))

      · have HE2 : Hid (Q = ⟨Ac, 0, 0⟩) := by unfold Hid; rw [HZ.out]; exact if_neg hAc
        have hA4 : (Ac != 0) = true := by simpa using hAc
        clear HZ hAc
        go_wp2
        try simp only [Exit.inBlock, Exit.then]
        refine bodyPost_ret (by simp [results, Try.results13, go_sem, q0, q1, q2, ql]; try rfl) rfl ⟨by rw [HE2.out] <;> rfl, ?_⟩
        have hb := HBZ.out
        (repeat' (first | (with_reducible exact Below.refl _ _) | (with_reducible assumption) | (with_reducible refine Below.setCell ?_ ?_ _) | (with_reducible refine Below.alloc ?_ ?_ _) | (with_reducible refine below_drewN ?_ _) | (with_reducible refine Below.drew ?_) | (with_reducible exact Nat.le_refl _) | omega | (simp; done) | (simp; omega)))


end Go.Proofs.Ytdidmjgilnhncab
