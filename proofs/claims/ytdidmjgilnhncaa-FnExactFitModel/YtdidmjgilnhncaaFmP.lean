/- Proved here: FitModel of the program: fmC, fmM. -/
import Derived.Test.YtdidmjgilnhncaaFmI
import Derived.Test.YtdidmjgilnhncaaMaI
import Derived.Test.YtdidmjgilnhncaaReg
namespace Go.Proofs.Ytdidmjgilnhncaa
open Go.RowKit
set_option linter.unusedVariables false
set_option linter.unusedSimpArgs false

theorem fin2 {V W : World} {Ka Kb : Nat} {a b c d e f : Value} {x y z u v t : Value} {T : TypeId} (hK : Below V.heap.size V W) (h1 : W.heap[Ka]? = some (.cells #[a, b, c] T)) (h2 : W.heap[Kb]? = some (.cells #[d, e, f] T)) (hne : Ka ≠ Kb) (ha : V.heap.size ≤ Ka) (hb : V.heap.size ≤ Kb) :
    KS V (W.setCells Ka 0 [x, y, z]) ∧ (W.setCells Ka 0 [x, y, z]).heap[Kb]? = some (.cells #[d, e, f] T) ∧ KS V ((W.setCells Ka 0 [x, y, z]).setCells Kb 0 [u, v, t]) ∧ ((W.setCells Ka 0 [x, y, z]).setCells Kb 0 [u, v, t]).heap[Ka]? = some (.cells #[x, y, z] T) ∧ ((W.setCells Ka 0 [x, y, z]).setCells Kb 0 [u, v, t]).heap[Kb]? = some (.cells #[u, v, t] T) := by
  have k1 : Below V.heap.size V (W.setCells Ka 0 [x, y, z]) := below_setCells _ ha _ _ _ hK
  have k2 : (W.setCells Ka 0 [x, y, z]).heap[Kb]? = some (.cells #[d, e, f] T) := by rw [setCells_other _ _ _ _ _ (Ne.symm hne)]; exact h2
  refine ⟨KS.of k1, k2, KS.of (below_setCells _ hb _ _ _ k1), ?_, set3 k2⟩
  rw [setCells_other _ _ _ _ _ hne]; exact set3 h1
theorem or_four {w : World} {g : Nat} {x y z t : Int} {T : TypeId} (h : w.heap[g]? = some (.cells #[.int .i64 x, .int .i64 y, .int .i64 z, .int .i64 t] T)) :
    Calls Try.prog 51 #[.slice (some ⟨g, 0, none⟩) 4 4] w fun e w' => e = .returned (.int .i64 (orL [x, y, z, t])) ∧ w' = w :=
  impl_or (by omega) rfl (fun j hj => by
    have hj4 : j < 4 := hj
    rcases (by omega : j = 0 ∨ j = 1 ∨ j = 2 ∨ j = 3) with rfl | rfl | rfl | rfl
    · exact cellOf h 0 rfl
    · exact cellOf h 1 rfl
    · exact cellOf h 2 rfl
    · exact cellOf h 3 rfl)

set_option maxRecDepth 10000 in
set_option maxHeartbeats 25600000 in
theorem impl_fm {w : World} {v : Value} {s : List Mrk} (hn : s.length ≤ 1048576) (h : RG 4 maC w v s) :
    Calls Try.prog 27 #[v] w fun e w' => e = .returned (.agg #[.int .i64 (fmC s), .int .i64 (fmM s).sx.n, .int .i64 (fmM s).sx.d, .int .i64 (fmM s).sy.n, .int .i64 (fmM s).sy.d, .int .i64 (fmM s).k.n, .int .i64 (fmM s).k.d, .int .i64 (fmM s).r.n, .int .i64 (fmM s).r.d]) ∧ Below w.heap.size w w' := by
  obtain ⟨a, c, rfl⟩ := h.form
  obtain ⟨n, hnn⟩ : ∃ n, n = s.length := ⟨_, rfl⟩
  obtain ⟨C, hC⟩ : ∃ C, C = fmC s := ⟨_, rfl⟩
  obtain ⟨M, hM⟩ : ∃ C, C = fmM s := ⟨_, rfl⟩
  obtain ⟨ms, hms⟩ : ∃ C, C = msF s := ⟨_, rfl⟩
  rw [← hC, ← hM]
  have HMS : Hid (∀ W, Below w.heap.size w W → Calls Try.prog 18 #[.slice a n c] W fun e w' => e = .returned (.int .i64 ms) ∧ Below W.heap.size W w') := fun W hW => by rw [hms, hnn]; exact impl_msF hn (h.below hW)
  rw [← hnn] at h ⊢
  have H : Hid (RG 4 maC w (.slice a n c) s ∧ n = s.length ∧ C = fmC s ∧ M = fmM s ∧ ms = msF s ∧ (C ≠ 0 → M = md0)) := ⟨h, hnn, hC, hM, hms, fun h0 => by rw [hM]; unfold fmM; rw [if_neg (by rw [← hC]; exact h0)]⟩
  clear h hnn hn hC hM hms
  obtain ⟨V, hV⟩ : ∃ V, V = w.alloc (.cells #[.int .i64 0, .int .i64 0, .int .i64 0, .int .i64 0, .int .i64 0, .int .i64 0, .int .i64 0, .int .i64 0, .int .i64 0] 55) := ⟨_, rfl⟩
  have HV : Hid (V.heap[w.heap.size]? = some (.cells #[.int .i64 0, .int .i64 0, .int .i64 0, .int .i64 0, .int .i64 0, .int .i64 0, .int .i64 0, .int .i64 0, .int .i64 0] 55) ∧ Below w.heap.size w V) := ⟨by rw [hV]; exact heap_alloc_new w _, by rw [hV]; (repeat' (first | (with_reducible exact Below.refl _ _) | (with_reducible assumption) | (with_reducible refine Below.setCell ?_ ?_ _) | (with_reducible refine Below.alloc ?_ ?_ _) | (with_reducible refine below_drewN ?_ _) | (with_reducible refine Below.drew ?_) | (with_reducible exact Nat.le_refl _) | omega | (simp; done) | (simp; omega)))⟩
  go_enter Try.func27, Try.ntmps27
  go_upto_region 1 with fail
  rw [← hV]
  clear hV
  go_wp2_with (fail)
  refine (HMS.out _ HV.out.2).mono ?_
  rintro e w1 ⟨rfl, hb1⟩
  have HW1 : Hid (w1.heap[w.heap.size]? = some (.cells #[.int .i64 0, .int .i64 0, .int .i64 0, .int .i64 0, .int .i64 0, .int .i64 0, .int .i64 0, .int .i64 0, .int .i64 0] 55) ∧ Below w.heap.size w w1) := ⟨(hb1.block _ (ltOf HV.out.1)).trans HV.out.1, HV.out.2.trans (hb1.mono HV.out.2.size)⟩
  clear hb1 HV HMS
  obtain ⟨⟨q0, q1, q2, q3, q4, q5, q6, q7, q8⟩, ⟨qf0, qf1, qf2, qf3, qf4, qf5, qf6, qf7, qf8⟩, ql⟩ := nine_c HW1.out.1
  by_cases hms0 : ms = 0
  case neg =>
    have HE : Hid (C = ms ∧ M = md0) := by
      have e : C = ms := by rw [H.out.2.2.1, fmC_ms (by rw [← H.out.2.2.2.2.1]; exact hms0), H.out.2.2.2.2.1]
      exact ⟨e, H.out.2.2.2.2.2 (by rw [e]; exact hms0)⟩
    have hA : (ms != 0) = true := by simpa using hms0
    have HB : Hid (Below w.heap.size w w1) := HW1.out.2
    clear hms0 HW1
    go_wp2
    try simp only [Exit.inBlock, Exit.then]
    refine bodyPost_ret (by simp [results, Try.results27, go_sem, q0, q1, q2, q3, q4, q5, q6, q7, q8, ql]; try rfl) rfl ⟨by rw [HE.out.1, HE.out.2] <;> rfl, ?_⟩
    have hb := HB.out
    (repeat' (first | (with_reducible exact Below.refl _ _) | (with_reducible assumption) | (with_reducible refine Below.setCell ?_ ?_ _) | (with_reducible refine Below.alloc ?_ ?_ _) | (with_reducible refine below_drewN ?_ _) | (with_reducible refine Below.drew ?_) | (with_reducible exact Nat.le_refl _) | omega | (simp; done) | (simp; omega)))

  have hA : (ms != 0) = false := by rw [hms0]; rfl
  have HM0 : Hid (msF s = 0 ∧ C = orL [(fm1 s).c, (fm2 s).c, (fm3 s).c, (fm4 s).c]) := by
    have e : msF s = 0 := by rw [← H.out.2.2.2.2.1]; exact hms0
    exact ⟨e, by rw [H.out.2.2.1, fmC_or e]⟩
  clear hms0
  obtain ⟨hnb, hdb, hkb, hrb⟩ := fit_bd HM0.out.1
  have hsb := sums_bd (msF_ok HM0.out.1).2.1 (msF_ok HM0.out.1).2.2
  obtain ⟨SX, hsX⟩ : ∃ D, D = smM fX s := ⟨_, rfl⟩
  obtain ⟨SY, hsY⟩ : ∃ D, D = smM fY s := ⟨_, rfl⟩
  obtain ⟨SQ, hsQ⟩ : ∃ D, D = smM fQ s := ⟨_, rfl⟩
  obtain ⟨SU, hsU⟩ : ∃ D, D = smM fU s := ⟨_, rfl⟩
  obtain ⟨SV, hsV⟩ : ∃ D, D = smM fV s := ⟨_, rfl⟩
  obtain ⟨SA, hsA⟩ : ∃ D, D = smM fA s := ⟨_, rfl⟩
  obtain ⟨SB, hsB⟩ : ∃ D, D = smM fB s := ⟨_, rfl⟩
  obtain ⟨D, hD⟩ : ∃ D, D = fmD s := ⟨_, rfl⟩
  rw [← hsX, ← hsY, ← hsQ, ← hsU, ← hsV, ← hsA, ← hsB] at hsb
  rw [← hD] at hdb
  rw [← H.out.2.1] at hnb
  have HSM : Hid (∀ W, Below w.heap.size w W → Calls Try.prog 61 #[.slice a n c] W fun e w' => e = .returned (.agg #[.int .i64 (n : Int), .int .i64 SX, .int .i64 SY, .int .i64 SQ, .int .i64 SU, .int .i64 SV, .int .i64 SA, .int .i64 SB, .int .i64 D]) ∧ Below W.heap.size W w') := fun W hW => by
    have h := impl_sums HM0.out.1 (H.out.1.below hW)
    rw [← H.out.2.1, ← hsX, ← hsY, ← hsQ, ← hsU, ← hsV, ← hsA, ← hsB, ← hD] at h; exact h
  obtain ⟨na, hna⟩ : ∃ z, z = (n : Int) * SA := ⟨_, rfl⟩
  have bna := pr_in (A := 20) (B := 2000000) (x := (n : Int)) (y := SA) (by omega) (by omega) (by omega) (by omega)
  rw [← hna] at bna
  have wna : IntKind.i64.wrap ((n : Int) * SA) = na := by rw [← hna, IntKind.wrap_i64]; omega
  obtain ⟨xu, hxu⟩ : ∃ z, z = SX * SU := ⟨_, rfl⟩
  have bxu := pr_in (A := 1000) (B := 20000) (x := SX) (y := SU) (by omega) (by omega) (by omega) (by omega)
  rw [← hxu] at bxu
  have wxu : IntKind.i64.wrap (SX * SU) = xu := by rw [← hxu, IntKind.wrap_i64]; omega
  obtain ⟨t1, ht1⟩ : ∃ z, z = na - xu := ⟨_, rfl⟩
  have wt1 : IntKind.i64.wrap (na - xu) = t1 := by rw [ht1, IntKind.wrap_i64]; omega
  obtain ⟨yv, hyv⟩ : ∃ z, z = SY * SV := ⟨_, rfl⟩
  have byv := pr_in (A := 1000) (B := 20000) (x := SY) (y := SV) (by omega) (by omega) (by omega) (by omega)
  rw [← hyv] at byv
  have wyv : IntKind.i64.wrap (SY * SV) = yv := by rw [← hyv, IntKind.wrap_i64]; omega
  obtain ⟨KK, hKK⟩ : ∃ z, z = t1 - yv := ⟨_, rfl⟩
  have wKK : IntKind.i64.wrap (t1 - yv) = KK := by rw [hKK, IntKind.wrap_i64]; omega
  obtain ⟨nb, hnb'⟩ : ∃ z, z = (n : Int) * SB := ⟨_, rfl⟩
  have bnb := pr_in (A := 20) (B := 2000000) (x := (n : Int)) (y := SB) (by omega) (by omega) (by omega) (by omega)
  rw [← hnb'] at bnb
  have wnb : IntKind.i64.wrap ((n : Int) * SB) = nb := by rw [← hnb', IntKind.wrap_i64]; omega
  obtain ⟨xv, hxv⟩ : ∃ z, z = SX * SV := ⟨_, rfl⟩
  have bxv := pr_in (A := 1000) (B := 20000) (x := SX) (y := SV) (by omega) (by omega) (by omega) (by omega)
  rw [← hxv] at bxv
  have wxv : IntKind.i64.wrap (SX * SV) = xv := by rw [← hxv, IntKind.wrap_i64]; omega
  obtain ⟨t2, ht2⟩ : ∃ z, z = nb - xv := ⟨_, rfl⟩
  have wt2 : IntKind.i64.wrap (nb - xv) = t2 := by rw [ht2, IntKind.wrap_i64]; omega
  obtain ⟨yu, hyu⟩ : ∃ z, z = SY * SU := ⟨_, rfl⟩
  have byu := pr_in (A := 1000) (B := 20000) (x := SY) (y := SU) (by omega) (by omega) (by omega) (by omega)
  rw [← hyu] at byu
  have wyu : IntKind.i64.wrap (SY * SU) = yu := by rw [← hyu, IntKind.wrap_i64]; omega
  obtain ⟨RR, hRR⟩ : ∃ z, z = t2 + yu := ⟨_, rfl⟩
  have wRR : IntKind.i64.wrap (t2 + yu) = RR := by rw [hRR, IntKind.wrap_i64]; omega
  obtain ⟨ud, hud⟩ : ∃ z, z = SU * D := ⟨_, rfl⟩
  have bud := pr_in (A := 20000) (B := 4000000) (x := SU) (y := D) (by omega) (by omega) (by omega) (by omega)
  rw [← hud] at bud
  have wud : IntKind.i64.wrap (SU * D) = ud := by rw [← hud, IntKind.wrap_i64]; omega
  obtain ⟨kx, hkx⟩ : ∃ z, z = KK * SX := ⟨_, rfl⟩
  have bkx := pr_in (A := 130000000) (B := 1000) (x := KK) (y := SX) (by omega) (by omega) (by omega) (by omega)
  rw [← hkx] at bkx
  have wkx : IntKind.i64.wrap (KK * SX) = kx := by rw [← hkx, IntKind.wrap_i64]; omega
  obtain ⟨t3, ht3⟩ : ∃ z, z = ud - kx := ⟨_, rfl⟩
  have wt3 : IntKind.i64.wrap (ud - kx) = t3 := by rw [ht3, IntKind.wrap_i64]; omega
  obtain ⟨ry, hry⟩ : ∃ z, z = RR * SY := ⟨_, rfl⟩
  have bry := pr_in (A := 130000000) (B := 1000) (x := RR) (y := SY) (by omega) (by omega) (by omega) (by omega)
  rw [← hry] at bry
  have wry : IntKind.i64.wrap (RR * SY) = ry := by rw [← hry, IntKind.wrap_i64]; omega
  obtain ⟨N1, hN1⟩ : ∃ z, z = t3 + ry := ⟨_, rfl⟩
  have wN1 : IntKind.i64.wrap (t3 + ry) = N1 := by rw [hN1, IntKind.wrap_i64]; omega
  obtain ⟨nd, hnd⟩ : ∃ z, z = (n : Int) * D := ⟨_, rfl⟩
  have bnd := pr_in (A := 20) (B := 4000000) (x := (n : Int)) (y := D) (by omega) (by omega) (by omega) (by omega)
  rw [← hnd] at bnd
  have wnd : IntKind.i64.wrap ((n : Int) * D) = nd := by rw [← hnd, IntKind.wrap_i64]; omega
  obtain ⟨vd, hvd⟩ : ∃ z, z = SV * D := ⟨_, rfl⟩
  have bvd := pr_in (A := 20000) (B := 4000000) (x := SV) (y := D) (by omega) (by omega) (by omega) (by omega)
  rw [← hvd] at bvd
  have wvd : IntKind.i64.wrap (SV * D) = vd := by rw [← hvd, IntKind.wrap_i64]; omega
  obtain ⟨ky, hky⟩ : ∃ z, z = KK * SY := ⟨_, rfl⟩
  have bky := pr_in (A := 130000000) (B := 1000) (x := KK) (y := SY) (by omega) (by omega) (by omega) (by omega)
  rw [← hky] at bky
  have wky : IntKind.i64.wrap (KK * SY) = ky := by rw [← hky, IntKind.wrap_i64]; omega
  obtain ⟨t4, ht4⟩ : ∃ z, z = vd - ky := ⟨_, rfl⟩
  have wt4 : IntKind.i64.wrap (vd - ky) = t4 := by rw [ht4, IntKind.wrap_i64]; omega
  obtain ⟨rx, hrx⟩ : ∃ z, z = RR * SX := ⟨_, rfl⟩
  have brx := pr_in (A := 130000000) (B := 1000) (x := RR) (y := SX) (by omega) (by omega) (by omega) (by omega)
  rw [← hrx] at brx
  have wrx : IntKind.i64.wrap (RR * SX) = rx := by rw [← hrx, IntKind.wrap_i64]; omega
  obtain ⟨N2, hN2⟩ : ∃ z, z = t4 - rx := ⟨_, rfl⟩
  have wN2 : IntKind.i64.wrap (t4 - rx) = N2 := by rw [hN2, IntKind.wrap_i64]; omega
  obtain ⟨A, hAq⟩ : ∃ q, q = rqQ N1 nd := ⟨_, rfl⟩
  obtain ⟨B, hBq⟩ : ∃ q, q = rqQ N2 nd := ⟨_, rfl⟩
  obtain ⟨E, hEq⟩ : ∃ q, q = rqQ KK D := ⟨_, rfl⟩
  obtain ⟨F, hFq⟩ : ∃ q, q = rqQ RR D := ⟨_, rfl⟩
  have HQ : Hid (A = fm1 s ∧ B = fm2 s ∧ E = fm3 s ∧ F = fm4 s) := by
    have eK : KK = fmK s := by rw [hKK, ht1, hna, hxu, hyv, hsA, hsX, hsU, hsY, hsV, H.out.2.1]; rfl
    have eR : RR = fmR s := by rw [hRR, ht2, hnb', hxv, hyu, hsB, hsX, hsU, hsY, hsV, H.out.2.1]; rfl
    refine ⟨?_, ?_, ?_, ?_⟩
    · rw [hAq, hN1, ht3, hud, hkx, hry, hnd, eK, eR, hsU, hsX, hsY, hD, H.out.2.1]; rfl
    · rw [hBq, hN2, ht4, hvd, hky, hrx, hnd, eK, eR, hsV, hsX, hsY, hD, H.out.2.1]; rfl
    · rw [hEq, eK, hD]; rfl
    · rw [hFq, eR, hD]; rfl
  have HMA : Hid (∀ W, Calls Try.prog 62 #[.int .i64 N1, .int .i64 nd] W fun e w' => e = .returned (.agg #[.int .i64 (A).c, .int .i64 (A).n, .int .i64 (A).d]) ∧ Below W.heap.size W w') := fun W => by rw [hAq]; exact impl_make N1 nd W (by have := pr_in (A := 20) (B := 4000000) (x := (n : Int)) (y := D) (by omega) (by omega) (by omega) (by omega); have h1 := Int.mul_le_mul (a := 1) (b := 1) (c := (n : Int)) (d := D) (by omega) (by omega) (by omega) (by omega); rw [hnd]; omega) (by omega)
  have HMB : Hid (∀ W, Calls Try.prog 62 #[.int .i64 N2, .int .i64 nd] W fun e w' => e = .returned (.agg #[.int .i64 (B).c, .int .i64 (B).n, .int .i64 (B).d]) ∧ Below W.heap.size W w') := fun W => by rw [hBq]; exact impl_make N2 nd W (by have := pr_in (A := 20) (B := 4000000) (x := (n : Int)) (y := D) (by omega) (by omega) (by omega) (by omega); have h1 := Int.mul_le_mul (a := 1) (b := 1) (c := (n : Int)) (d := D) (by omega) (by omega) (by omega) (by omega); rw [hnd]; omega) (by omega)
  have HME : Hid (∀ W, Calls Try.prog 62 #[.int .i64 KK, .int .i64 D] W fun e w' => e = .returned (.agg #[.int .i64 (E).c, .int .i64 (E).n, .int .i64 (E).d]) ∧ Below W.heap.size W w') := fun W => by rw [hEq]; exact impl_make KK D W (by omega) (by omega)
  have HMF : Hid (∀ W, Calls Try.prog 62 #[.int .i64 RR, .int .i64 D] W fun e w' => e = .returned (.agg #[.int .i64 (F).c, .int .i64 (F).n, .int .i64 (F).d]) ∧ Below W.heap.size W w') := fun W => by rw [hFq]; exact impl_make RR D W (by omega) (by omega)
  have HCC : Hid (C = orL [A.c, B.c, E.c, F.c] ∧ (C = 0 → M = ⟨A.fr, B.fr, E.fr, F.fr⟩)) := by
    obtain ⟨e1, e2, e3, e4⟩ := HQ.out
    rw [e1, e2, e3, e4]
    refine ⟨HM0.out.2, fun h0 => ?_⟩
    rw [H.out.2.2.2.1]; unfold fmM; rw [if_pos (by rw [← H.out.2.2.1]; exact h0)]
  clear HQ hAq hBq hEq hFq hD hnb hdb hkb hrb hsb hsX hsY hsQ hsU hsV hsA hsB bna bxu byv bnb bxv byu bud bkx bry bnd bvd bky brx hna hxu ht1 hyv hKK hnb' hxv ht2 hyu hRR hud hkx ht3 hry hN1 hnd hvd hky ht4 hrx hN2
  obtain ⟨Ac, An, Ad⟩ := A
  obtain ⟨Bc, Bn, Bd⟩ := B
  obtain ⟨Ec, En, Ed⟩ := E
  obtain ⟨Fc, Fn, Fd⟩ := F
  clear q0 q1 q2 q3 q4 q5 q6 q7 q8 qf0 qf1 qf2 qf3 qf4 qf5 qf6 qf7 qf8 ql
  go_wp2_with (fail)
  refine (HSM.out _ HW1.out.2).mono ?_
  rintro e w2 ⟨rfl, hb2⟩
  have HW2 : Hid (w2.heap[w.heap.size]? = some (.cells #[.int .i64 0, .int .i64 0, .int .i64 0, .int .i64 0, .int .i64 0, .int .i64 0, .int .i64 0, .int .i64 0, .int .i64 0] 55) ∧ Below w.heap.size w w2) := ⟨(hb2.block _ (ltOf HW1.out.1)).trans HW1.out.1, HW1.out.2.trans (hb2.mono HW1.out.2.size)⟩
  clear hb2 HW1 HSM
  go_wp2_with (fail)
  obtain ⟨V3, hV3⟩ : ∃ V, V = w2.alloc (.cells #[.int .i64 (n : Int), .int .i64 SX, .int .i64 SY, .int .i64 SQ, .int .i64 SU, .int .i64 SV, .int .i64 SA, .int .i64 SB, .int .i64 D] 103) := ⟨_, rfl⟩
  rw [← hV3]
  obtain ⟨Ks, hKs⟩ : ∃ K, K = w2.heap.size := ⟨_, rfl⟩
  rw [← hKs]
  have HV3 : Hid (V3.heap[w.heap.size]? = some (.cells #[.int .i64 0, .int .i64 0, .int .i64 0, .int .i64 0, .int .i64 0, .int .i64 0, .int .i64 0, .int .i64 0, .int .i64 0] 55) ∧ Below w.heap.size w V3 ∧ V3.heap[Ks]? = some (.cells #[.int .i64 (n : Int), .int .i64 SX, .int .i64 SY, .int .i64 SQ, .int .i64 SU, .int .i64 SV, .int .i64 SA, .int .i64 SB, .int .i64 D] 103)) := by
    have hb3 : Below w2.heap.size w2 V3 := by rw [hV3]; (repeat' (first | (with_reducible exact Below.refl _ _) | (with_reducible assumption) | (with_reducible refine Below.setCell ?_ ?_ _) | (with_reducible refine Below.alloc ?_ ?_ _) | (with_reducible refine below_drewN ?_ _) | (with_reducible refine Below.drew ?_) | (with_reducible exact Nat.le_refl _) | omega | (simp; done) | (simp; omega)))
    exact ⟨(hb3.block _ (ltOf HW2.out.1)).trans HW2.out.1, HW2.out.2.trans (hb3.mono HW2.out.2.size), by rw [hV3, hKs]; exact heap_alloc_new w2 _⟩
  clear hV3 hKs HW2
  refine (HMA.out _).mono ?_
  rintro e w3 ⟨rfl, hb3⟩
  have HW3 : Hid (w3.heap[w.heap.size]? = some (.cells #[.int .i64 0, .int .i64 0, .int .i64 0, .int .i64 0, .int .i64 0, .int .i64 0, .int .i64 0, .int .i64 0, .int .i64 0] 55) ∧ Below w.heap.size w w3 ∧ w3.heap[Ks]? = some (.cells #[.int .i64 (n : Int), .int .i64 SX, .int .i64 SY, .int .i64 SQ, .int .i64 SU, .int .i64 SV, .int .i64 SA, .int .i64 SB, .int .i64 D] 103)) := ⟨(hb3.block _ (ltOf HV3.out.1)).trans HV3.out.1, HV3.out.2.1.trans (hb3.mono HV3.out.2.1.size), (hb3.block _ (ltOf HV3.out.2.2)).trans HV3.out.2.2⟩
  clear hb3 HV3 HMA
  obtain ⟨⟨p0, p1, p2, p3, p4, p5, p6, p7, p8⟩, ⟨pf0, pf1, pf2, pf3, pf4, pf5, pf6, pf7, pf8⟩, pl⟩ := nine_c HW3.out.2.2
  go_wp2_with (fail)
  obtain ⟨V4, hV4⟩ : ∃ V, V = w3.alloc (.cells #[.int .i64 Ac, .int .i64 An, .int .i64 Ad] 90) := ⟨_, rfl⟩
  rw [← hV4]
  obtain ⟨Ka, hKa⟩ : ∃ K, K = w3.heap.size := ⟨_, rfl⟩
  rw [← hKa]
  have HV4 : Hid (V4.heap[w.heap.size]? = some (.cells #[.int .i64 0, .int .i64 0, .int .i64 0, .int .i64 0, .int .i64 0, .int .i64 0, .int .i64 0, .int .i64 0, .int .i64 0] 55) ∧ Below w.heap.size w V4 ∧ V4.heap[Ks]? = some (.cells #[.int .i64 (n : Int), .int .i64 SX, .int .i64 SY, .int .i64 SQ, .int .i64 SU, .int .i64 SV, .int .i64 SA, .int .i64 SB, .int .i64 D] 103) ∧ V4.heap[Ka]? = some (.cells #[.int .i64 Ac, .int .i64 An, .int .i64 Ad] 90)) := by
    have hb3 : Below w3.heap.size w3 V4 := by rw [hV4]; (repeat' (first | (with_reducible exact Below.refl _ _) | (with_reducible assumption) | (with_reducible refine Below.setCell ?_ ?_ _) | (with_reducible refine Below.alloc ?_ ?_ _) | (with_reducible refine below_drewN ?_ _) | (with_reducible refine Below.drew ?_) | (with_reducible exact Nat.le_refl _) | omega | (simp; done) | (simp; omega)))
    exact ⟨(hb3.block _ (ltOf HW3.out.1)).trans HW3.out.1, HW3.out.2.1.trans (hb3.mono HW3.out.2.1.size), (hb3.block _ (ltOf HW3.out.2.2)).trans HW3.out.2.2, by rw [hV4, hKa]; exact heap_alloc_new w3 _⟩
  clear hV4 hKa HW3 p0 p1 p2 p3 p4 p5 p6 p7 p8 pf0 pf1 pf2 pf3 pf4 pf5 pf6 pf7 pf8 pl
  refine (HMB.out _).mono ?_
  rintro e w5 ⟨rfl, hb3⟩
  have HW5 : Hid (w5.heap[w.heap.size]? = some (.cells #[.int .i64 0, .int .i64 0, .int .i64 0, .int .i64 0, .int .i64 0, .int .i64 0, .int .i64 0, .int .i64 0, .int .i64 0] 55) ∧ Below w.heap.size w w5 ∧ w5.heap[Ks]? = some (.cells #[.int .i64 (n : Int), .int .i64 SX, .int .i64 SY, .int .i64 SQ, .int .i64 SU, .int .i64 SV, .int .i64 SA, .int .i64 SB, .int .i64 D] 103) ∧ w5.heap[Ka]? = some (.cells #[.int .i64 Ac, .int .i64 An, .int .i64 Ad] 90)) := ⟨(hb3.block _ (ltOf HV4.out.1)).trans HV4.out.1, HV4.out.2.1.trans (hb3.mono HV4.out.2.1.size), (hb3.block _ (ltOf HV4.out.2.2.1)).trans HV4.out.2.2.1, (hb3.block _ (ltOf HV4.out.2.2.2)).trans HV4.out.2.2.2⟩
  clear hb3 HV4 HMB
  go_upto_region 9 with (fail)
  obtain ⟨V5, hV5⟩ : ∃ V, V = w5.alloc (.cells #[.int .i64 Bc, .int .i64 Bn, .int .i64 Bd] 90) := ⟨_, rfl⟩
  rw [← hV5]
  obtain ⟨Kb, hKb⟩ : ∃ K, K = w5.heap.size := ⟨_, rfl⟩
  rw [← hKb]
  have HV5 : Hid (V5.heap[w.heap.size]? = some (.cells #[.int .i64 0, .int .i64 0, .int .i64 0, .int .i64 0, .int .i64 0, .int .i64 0, .int .i64 0, .int .i64 0, .int .i64 0] 55) ∧ Below w.heap.size w V5 ∧ V5.heap[Ks]? = some (.cells #[.int .i64 (n : Int), .int .i64 SX, .int .i64 SY, .int .i64 SQ, .int .i64 SU, .int .i64 SV, .int .i64 SA, .int .i64 SB, .int .i64 D] 103) ∧ V5.heap[Ka]? = some (.cells #[.int .i64 Ac, .int .i64 An, .int .i64 Ad] 90) ∧ V5.heap[Kb]? = some (.cells #[.int .i64 Bc, .int .i64 Bn, .int .i64 Bd] 90)) := by
    have hb3 : Below w5.heap.size w5 V5 := by rw [hV5]; (repeat' (first | (with_reducible exact Below.refl _ _) | (with_reducible assumption) | (with_reducible refine Below.setCell ?_ ?_ _) | (with_reducible refine Below.alloc ?_ ?_ _) | (with_reducible refine below_drewN ?_ _) | (with_reducible refine Below.drew ?_) | (with_reducible exact Nat.le_refl _) | omega | (simp; done) | (simp; omega)))
    exact ⟨(hb3.block _ (ltOf HW5.out.1)).trans HW5.out.1, HW5.out.2.1.trans (hb3.mono HW5.out.2.1.size), (hb3.block _ (ltOf HW5.out.2.2.1)).trans HW5.out.2.2.1, (hb3.block _ (ltOf HW5.out.2.2.2)).trans HW5.out.2.2.2, by rw [hV5, hKb]; exact heap_alloc_new w5 _⟩
  clear hV5 hKb HW5
  go_cut [9, 10] from 11 (fun r9 r10 wx => ∃ Ke Kf, r9 = .pointer (some ⟨Ke, 0, none⟩) ∧ r10 = .pointer (some ⟨Kf, 0, none⟩) ∧ Hid (Below V5.heap.size V5 wx ∧ wx.heap[Ke]? = some (.cells #[.int .i64 Ec, .int .i64 En, .int .i64 Ed] 90) ∧ wx.heap[Kf]? = some (.cells #[.int .i64 Fc, .int .i64 Fn, .int .i64 Fd] 90)))
  case first =>
    obtain ⟨⟨p0, p1, p2, p3, p4, p5, p6, p7, p8⟩, ⟨pf0, pf1, pf2, pf3, pf4, pf5, pf6, pf7, pf8⟩, pl⟩ := nine_c HV5.out.2.2.1
    refine wp_region_float (by kernel_rfl) (fun hS => ?_)
    refine fl_take (i := 0) (d := 96) (v := .int .i64 KK) rfl rfl rfl (by kernel_rfl) (by kernel_rfl) (by kernel_rfl) hS ?_ ?_
    · intro w' hk; go_simp
    simp only [Act.put, List.setIfInBounds_toArray, List.set_cons_zero, List.set_cons_succ]
    refine fl_take (i := 1) (d := 97) (v := .pointer (some ⟨Ks, 8, none⟩)) rfl rfl rfl (by kernel_rfl) (by kernel_rfl) (by kernel_rfl) hS ?_ ?_
    · intro w' hk; go_simp
    simp only [Act.put, List.setIfInBounds_toArray, List.set_cons_zero, List.set_cons_succ]
    refine fl_take (i := 2) (d := 98) (v := .int .i64 D) rfl rfl rfl (by kernel_rfl) (by kernel_rfl) (by kernel_rfl) hS ?_ ?_
    · intro w' hk; go_simp
    simp only [Act.put, List.setIfInBounds_toArray, List.set_cons_zero, List.set_cons_succ]
    refine fl_take (i := 4) (d := 100) (v := .int .i64 RR) rfl rfl rfl (by kernel_rfl) (by kernel_rfl) (by kernel_rfl) hS ?_ ?_
    · intro w' hk; go_simp
    simp only [Act.put, List.setIfInBounds_toArray, List.set_cons_zero, List.set_cons_succ]
    refine fl_take (i := 5) (d := 101) (v := .pointer (some ⟨Ks, 8, none⟩)) rfl rfl rfl (by kernel_rfl) (by kernel_rfl) (by kernel_rfl) hS ?_ ?_
    · intro w' hk; go_simp
    simp only [Act.put, List.setIfInBounds_toArray, List.set_cons_zero, List.set_cons_succ]
    refine fl_take (i := 6) (d := 102) (v := .int .i64 D) rfl rfl rfl (by kernel_rfl) (by kernel_rfl) (by kernel_rfl) hS ?_ ?_
    · intro w' hk; go_simp
    simp only [Act.put, List.setIfInBounds_toArray, List.set_cons_zero, List.set_cons_succ]
    clear p0 p1 p2 p3 p4 p5 p6 p7 p8 pf0 pf1 pf2 pf3 pf4 pf5 pf6 pf7 pf8 pl
    refine wpAnyH_all (rs := [3, 8, 9]) (by kernel_rfl) (by simp) ?_
    intro i hi
    rcases (by simpa using hi : i = 3 ∨ i = 8 ∨ i = 9) with rfl | rfl | rfl
    · clear hi
      refine op_call (d := 99) rfl rfl rfl (by go_simp) ((HME.out _).mono ?_)
      rintro e y3 ⟨rfl, hb3⟩
      have hk3 : Below V5.heap.size V5 y3 := (hS.2).trans (hb3.mono (hS.2).size)
      refine ⟨_, rfl, KS.of hk3, ?_⟩
      simp only [Act.put, List.setIfInBounds_toArray, List.set_cons_zero, List.set_cons_succ]
      refine wpAnyH_all (rs := [7, 8, 9]) (by kernel_rfl) (by simp) ?_
      intro i hi
      rcases (by simpa using hi : i = 7 ∨ i = 8 ∨ i = 9) with rfl | rfl | rfl
      · clear hi
        refine op_call (d := 103) rfl rfl rfl (by go_simp) ((HMF.out _).mono ?_)
        rintro e y3_7 ⟨rfl, hb3_7⟩
        have hk3_7 : Below V5.heap.size V5 y3_7 := (hk3).trans (hb3_7.mono (hk3).size)
        refine ⟨_, rfl, KS.of hk3_7, ?_⟩
        simp only [Act.put, List.setIfInBounds_toArray, List.set_cons_zero, List.set_cons_succ]
        refine wpAnyH_all (rs := [8, 9]) (by kernel_rfl) (by simp) ?_
        intro i hi
        rcases (by simpa using hi : i = 8 ∨ i = 9) with rfl | rfl
        · clear hi
          refine op_val (d := 9) (v := .pointer (some ⟨y3_7.heap.size, 0, none⟩)) (w' := y3_7.alloc (.cells #[.int .i64 0, .int .i64 0, .int .i64 0] 90)) rfl rfl rfl (by go_simp; try rfl) ?_
          simp only [Act.put, List.setIfInBounds_toArray, List.set_cons_zero, List.set_cons_succ]
          have hn3_7_8 := heap_alloc_new y3_7 (.cells #[.int .i64 0, .int .i64 0, .int .i64 0] 90)
          have hl3_7_8 : V5.heap.size ≤ y3_7.heap.size := (hk3_7).size
          obtain ⟨y3_7_8, hy3_7_8⟩ : ∃ y, y = y3_7.alloc (.cells #[.int .i64 0, .int .i64 0, .int .i64 0] 90) := ⟨_, rfl⟩
          have hbb3_7_8 : Below y3_7.heap.size y3_7 y3_7_8 := by rw [hy3_7_8]; exact (Below.refl _ _).alloc (Nat.le_refl _) _
          have hk3_7_8 : Below V5.heap.size V5 y3_7_8 := (hk3_7).trans (hbb3_7_8.mono hl3_7_8)
          rw [← hy3_7_8] at hn3_7_8 ⊢
          obtain ⟨K3_7_8, hK3_7_8⟩ : ∃ K, K = y3_7.heap.size := ⟨_, rfl⟩
          rw [← hK3_7_8] at hn3_7_8 hl3_7_8 ⊢
          have hKe3_7_8 : K3_7_8 = y3_7.heap.size := hK3_7_8
          clear hy3_7_8 hK3_7_8
          refine ⟨KS.of hk3_7_8, ?_⟩
          refine wpAnyH_all (rs := [9]) (by kernel_rfl) (by simp) ?_
          intro i hi
          obtain rfl : i = 9 := by simpa using hi
          clear hi
          refine op_val (d := 10) (v := .pointer (some ⟨y3_7_8.heap.size, 0, none⟩)) (w' := y3_7_8.alloc (.cells #[.int .i64 0, .int .i64 0, .int .i64 0] 90)) rfl rfl rfl (by go_simp; try rfl) ?_
          simp only [Act.put, List.setIfInBounds_toArray, List.set_cons_zero, List.set_cons_succ]
          have hn3_7_8_9 := heap_alloc_new y3_7_8 (.cells #[.int .i64 0, .int .i64 0, .int .i64 0] 90)
          have hl3_7_8_9 : V5.heap.size ≤ y3_7_8.heap.size := (hk3_7_8).size
          obtain ⟨y3_7_8_9, hy3_7_8_9⟩ : ∃ y, y = y3_7_8.alloc (.cells #[.int .i64 0, .int .i64 0, .int .i64 0] 90) := ⟨_, rfl⟩
          have hbb3_7_8_9 : Below y3_7_8.heap.size y3_7_8 y3_7_8_9 := by rw [hy3_7_8_9]; exact (Below.refl _ _).alloc (Nat.le_refl _) _
          have hk3_7_8_9 : Below V5.heap.size V5 y3_7_8_9 := (hk3_7_8).trans (hbb3_7_8_9.mono hl3_7_8_9)
          have ha3_7_8_9 := (hbb3_7_8_9.block _ (ltOf hn3_7_8)).trans hn3_7_8
          have hlt3_7_8_9 := ltOf hn3_7_8
          rw [← hy3_7_8_9] at hn3_7_8_9 ⊢
          obtain ⟨K3_7_8_9, hK3_7_8_9⟩ : ∃ K, K = y3_7_8.heap.size := ⟨_, rfl⟩
          rw [← hK3_7_8_9] at hn3_7_8_9 hl3_7_8_9 ⊢
          have hKe3_7_8_9 : K3_7_8_9 = y3_7_8.heap.size := hK3_7_8_9
          clear hy3_7_8_9 hK3_7_8_9
          refine ⟨KS.of hk3_7_8_9, ?_⟩
          obtain ⟨f1, f2, f3, f4, f5⟩ := fin2 (x := .int .i64 Ec) (y := .int .i64 En) (z := .int .i64 Ed) (u := .int .i64 Fc) (v := .int .i64 Fn) (t := .int .i64 Fd) hk3_7_8_9 ha3_7_8_9 hn3_7_8_9 (by omega) (by omega) (by omega)
          refine wpAnyH_all (rs := [10]) (by kernel_rfl) (by simp) ?_
          intro i hi
          obtain rfl : i = 10 := by simpa using hi
          refine op_store rfl rfl rfl _ _ _ rfl K3_7_8 #[.int .i64 Ec, .int .i64 En, .int .i64 Ed] rfl rfl (there_three ha3_7_8_9) (by kernel_rfl) (by simp [Value.oneCell']) ?_
          refine ⟨f1, wpAnyH_all (rs := [11]) (by kernel_rfl) (by simp) ?_⟩
          intro i hi
          obtain rfl : i = 11 := by simpa using hi
          refine op_store rfl rfl rfl _ _ _ rfl K3_7_8_9 #[.int .i64 Fc, .int .i64 Fn, .int .i64 Fd] rfl rfl (there_three f2) (by kernel_rfl) (by simp [Value.oneCell']) ?_
          refine ⟨f3, wpAnyH_done (by kernel_rfl) (NoPanic.normal ?_) _⟩
          go_wp2_with (fail)
          go_meet
          exact ⟨K3_7_8, K3_7_8_9, rfl, rfl, f3.2, f4, f5⟩
        · clear hi
          refine op_val (d := 10) (v := .pointer (some ⟨y3_7.heap.size, 0, none⟩)) (w' := y3_7.alloc (.cells #[.int .i64 0, .int .i64 0, .int .i64 0] 90)) rfl rfl rfl (by go_simp; try rfl) ?_
          simp only [Act.put, List.setIfInBounds_toArray, List.set_cons_zero, List.set_cons_succ]
          have hn3_7_9 := heap_alloc_new y3_7 (.cells #[.int .i64 0, .int .i64 0, .int .i64 0] 90)
          have hl3_7_9 : V5.heap.size ≤ y3_7.heap.size := (hk3_7).size
          obtain ⟨y3_7_9, hy3_7_9⟩ : ∃ y, y = y3_7.alloc (.cells #[.int .i64 0, .int .i64 0, .int .i64 0] 90) := ⟨_, rfl⟩
          have hbb3_7_9 : Below y3_7.heap.size y3_7 y3_7_9 := by rw [hy3_7_9]; exact (Below.refl _ _).alloc (Nat.le_refl _) _
          have hk3_7_9 : Below V5.heap.size V5 y3_7_9 := (hk3_7).trans (hbb3_7_9.mono hl3_7_9)
          rw [← hy3_7_9] at hn3_7_9 ⊢
          obtain ⟨K3_7_9, hK3_7_9⟩ : ∃ K, K = y3_7.heap.size := ⟨_, rfl⟩
          rw [← hK3_7_9] at hn3_7_9 hl3_7_9 ⊢
          have hKe3_7_9 : K3_7_9 = y3_7.heap.size := hK3_7_9
          clear hy3_7_9 hK3_7_9
          refine ⟨KS.of hk3_7_9, ?_⟩
          refine wpAnyH_all (rs := [8]) (by kernel_rfl) (by simp) ?_
          intro i hi
          obtain rfl : i = 8 := by simpa using hi
          clear hi
          refine op_val (d := 9) (v := .pointer (some ⟨y3_7_9.heap.size, 0, none⟩)) (w' := y3_7_9.alloc (.cells #[.int .i64 0, .int .i64 0, .int .i64 0] 90)) rfl rfl rfl (by go_simp; try rfl) ?_
          simp only [Act.put, List.setIfInBounds_toArray, List.set_cons_zero, List.set_cons_succ]
          have hn3_7_9_8 := heap_alloc_new y3_7_9 (.cells #[.int .i64 0, .int .i64 0, .int .i64 0] 90)
          have hl3_7_9_8 : V5.heap.size ≤ y3_7_9.heap.size := (hk3_7_9).size
          obtain ⟨y3_7_9_8, hy3_7_9_8⟩ : ∃ y, y = y3_7_9.alloc (.cells #[.int .i64 0, .int .i64 0, .int .i64 0] 90) := ⟨_, rfl⟩
          have hbb3_7_9_8 : Below y3_7_9.heap.size y3_7_9 y3_7_9_8 := by rw [hy3_7_9_8]; exact (Below.refl _ _).alloc (Nat.le_refl _) _
          have hk3_7_9_8 : Below V5.heap.size V5 y3_7_9_8 := (hk3_7_9).trans (hbb3_7_9_8.mono hl3_7_9_8)
          have hb3_7_9_8 := (hbb3_7_9_8.block _ (ltOf hn3_7_9)).trans hn3_7_9
          have hlt3_7_9_8 := ltOf hn3_7_9
          rw [← hy3_7_9_8] at hn3_7_9_8 ⊢
          obtain ⟨K3_7_9_8, hK3_7_9_8⟩ : ∃ K, K = y3_7_9.heap.size := ⟨_, rfl⟩
          rw [← hK3_7_9_8] at hn3_7_9_8 hl3_7_9_8 ⊢
          have hKe3_7_9_8 : K3_7_9_8 = y3_7_9.heap.size := hK3_7_9_8
          clear hy3_7_9_8 hK3_7_9_8
          refine ⟨KS.of hk3_7_9_8, ?_⟩
          obtain ⟨f1, f2, f3, f4, f5⟩ := fin2 (x := .int .i64 Ec) (y := .int .i64 En) (z := .int .i64 Ed) (u := .int .i64 Fc) (v := .int .i64 Fn) (t := .int .i64 Fd) hk3_7_9_8 hn3_7_9_8 hb3_7_9_8 (by omega) (by omega) (by omega)
          refine wpAnyH_all (rs := [10]) (by kernel_rfl) (by simp) ?_
          intro i hi
          obtain rfl : i = 10 := by simpa using hi
          refine op_store rfl rfl rfl _ _ _ rfl K3_7_9_8 #[.int .i64 Ec, .int .i64 En, .int .i64 Ed] rfl rfl (there_three hn3_7_9_8) (by kernel_rfl) (by simp [Value.oneCell']) ?_
          refine ⟨f1, wpAnyH_all (rs := [11]) (by kernel_rfl) (by simp) ?_⟩
          intro i hi
          obtain rfl : i = 11 := by simpa using hi
          refine op_store rfl rfl rfl _ _ _ rfl K3_7_9 #[.int .i64 Fc, .int .i64 Fn, .int .i64 Fd] rfl rfl (there_three f2) (by kernel_rfl) (by simp [Value.oneCell']) ?_
          refine ⟨f3, wpAnyH_done (by kernel_rfl) (NoPanic.normal ?_) _⟩
          go_wp2_with (fail)
          go_meet
          exact ⟨K3_7_9_8, K3_7_9, rfl, rfl, f3.2, f4, f5⟩
      · clear hi
        refine op_val (d := 9) (v := .pointer (some ⟨y3.heap.size, 0, none⟩)) (w' := y3.alloc (.cells #[.int .i64 0, .int .i64 0, .int .i64 0] 90)) rfl rfl rfl (by go_simp; try rfl) ?_
        simp only [Act.put, List.setIfInBounds_toArray, List.set_cons_zero, List.set_cons_succ]
        have hn3_8 := heap_alloc_new y3 (.cells #[.int .i64 0, .int .i64 0, .int .i64 0] 90)
        have hl3_8 : V5.heap.size ≤ y3.heap.size := (hk3).size
        obtain ⟨y3_8, hy3_8⟩ : ∃ y, y = y3.alloc (.cells #[.int .i64 0, .int .i64 0, .int .i64 0] 90) := ⟨_, rfl⟩
        have hbb3_8 : Below y3.heap.size y3 y3_8 := by rw [hy3_8]; exact (Below.refl _ _).alloc (Nat.le_refl _) _
        have hk3_8 : Below V5.heap.size V5 y3_8 := (hk3).trans (hbb3_8.mono hl3_8)
        rw [← hy3_8] at hn3_8 ⊢
        obtain ⟨K3_8, hK3_8⟩ : ∃ K, K = y3.heap.size := ⟨_, rfl⟩
        rw [← hK3_8] at hn3_8 hl3_8 ⊢
        have hKe3_8 : K3_8 = y3.heap.size := hK3_8
        clear hy3_8 hK3_8
        refine ⟨KS.of hk3_8, ?_⟩
        refine wpAnyH_all (rs := [7, 9]) (by kernel_rfl) (by simp) ?_
        intro i hi
        rcases (by simpa using hi : i = 7 ∨ i = 9) with rfl | rfl
        · clear hi
          refine op_call (d := 103) rfl rfl rfl (by go_simp) ((HMF.out _).mono ?_)
          rintro e y3_8_7 ⟨rfl, hb3_8_7⟩
          have hk3_8_7 : Below V5.heap.size V5 y3_8_7 := (hk3_8).trans (hb3_8_7.mono (hk3_8).size)
          have ha3_8_7 := (hb3_8_7.block _ (ltOf hn3_8)).trans hn3_8
          refine ⟨_, rfl, KS.of hk3_8_7, ?_⟩
          simp only [Act.put, List.setIfInBounds_toArray, List.set_cons_zero, List.set_cons_succ]
          refine wpAnyH_all (rs := [9]) (by kernel_rfl) (by simp) ?_
          intro i hi
          obtain rfl : i = 9 := by simpa using hi
          clear hi
          refine op_val (d := 10) (v := .pointer (some ⟨y3_8_7.heap.size, 0, none⟩)) (w' := y3_8_7.alloc (.cells #[.int .i64 0, .int .i64 0, .int .i64 0] 90)) rfl rfl rfl (by go_simp; try rfl) ?_
          simp only [Act.put, List.setIfInBounds_toArray, List.set_cons_zero, List.set_cons_succ]
          have hn3_8_7_9 := heap_alloc_new y3_8_7 (.cells #[.int .i64 0, .int .i64 0, .int .i64 0] 90)
          have hl3_8_7_9 : V5.heap.size ≤ y3_8_7.heap.size := (hk3_8_7).size
          obtain ⟨y3_8_7_9, hy3_8_7_9⟩ : ∃ y, y = y3_8_7.alloc (.cells #[.int .i64 0, .int .i64 0, .int .i64 0] 90) := ⟨_, rfl⟩
          have hbb3_8_7_9 : Below y3_8_7.heap.size y3_8_7 y3_8_7_9 := by rw [hy3_8_7_9]; exact (Below.refl _ _).alloc (Nat.le_refl _) _
          have hk3_8_7_9 : Below V5.heap.size V5 y3_8_7_9 := (hk3_8_7).trans (hbb3_8_7_9.mono hl3_8_7_9)
          have ha3_8_7_9 := (hbb3_8_7_9.block _ (ltOf ha3_8_7)).trans ha3_8_7
          have hlt3_8_7_9 := ltOf ha3_8_7
          rw [← hy3_8_7_9] at hn3_8_7_9 ⊢
          obtain ⟨K3_8_7_9, hK3_8_7_9⟩ : ∃ K, K = y3_8_7.heap.size := ⟨_, rfl⟩
          rw [← hK3_8_7_9] at hn3_8_7_9 hl3_8_7_9 ⊢
          have hKe3_8_7_9 : K3_8_7_9 = y3_8_7.heap.size := hK3_8_7_9
          clear hy3_8_7_9 hK3_8_7_9
          refine ⟨KS.of hk3_8_7_9, ?_⟩
          obtain ⟨f1, f2, f3, f4, f5⟩ := fin2 (x := .int .i64 Ec) (y := .int .i64 En) (z := .int .i64 Ed) (u := .int .i64 Fc) (v := .int .i64 Fn) (t := .int .i64 Fd) hk3_8_7_9 ha3_8_7_9 hn3_8_7_9 (by omega) (by omega) (by omega)
          refine wpAnyH_all (rs := [10]) (by kernel_rfl) (by simp) ?_
          intro i hi
          obtain rfl : i = 10 := by simpa using hi
          refine op_store rfl rfl rfl _ _ _ rfl K3_8 #[.int .i64 Ec, .int .i64 En, .int .i64 Ed] rfl rfl (there_three ha3_8_7_9) (by kernel_rfl) (by simp [Value.oneCell']) ?_
          refine ⟨f1, wpAnyH_all (rs := [11]) (by kernel_rfl) (by simp) ?_⟩
          intro i hi
          obtain rfl : i = 11 := by simpa using hi
          refine op_store rfl rfl rfl _ _ _ rfl K3_8_7_9 #[.int .i64 Fc, .int .i64 Fn, .int .i64 Fd] rfl rfl (there_three f2) (by kernel_rfl) (by simp [Value.oneCell']) ?_
          refine ⟨f3, wpAnyH_done (by kernel_rfl) (NoPanic.normal ?_) _⟩
          go_wp2_with (fail)
          go_meet
          exact ⟨K3_8, K3_8_7_9, rfl, rfl, f3.2, f4, f5⟩
        · clear hi
          refine op_val (d := 10) (v := .pointer (some ⟨y3_8.heap.size, 0, none⟩)) (w' := y3_8.alloc (.cells #[.int .i64 0, .int .i64 0, .int .i64 0] 90)) rfl rfl rfl (by go_simp; try rfl) ?_
          simp only [Act.put, List.setIfInBounds_toArray, List.set_cons_zero, List.set_cons_succ]
          have hn3_8_9 := heap_alloc_new y3_8 (.cells #[.int .i64 0, .int .i64 0, .int .i64 0] 90)
          have hl3_8_9 : V5.heap.size ≤ y3_8.heap.size := (hk3_8).size
          obtain ⟨y3_8_9, hy3_8_9⟩ : ∃ y, y = y3_8.alloc (.cells #[.int .i64 0, .int .i64 0, .int .i64 0] 90) := ⟨_, rfl⟩
          have hbb3_8_9 : Below y3_8.heap.size y3_8 y3_8_9 := by rw [hy3_8_9]; exact (Below.refl _ _).alloc (Nat.le_refl _) _
          have hk3_8_9 : Below V5.heap.size V5 y3_8_9 := (hk3_8).trans (hbb3_8_9.mono hl3_8_9)
          have ha3_8_9 := (hbb3_8_9.block _ (ltOf hn3_8)).trans hn3_8
          have hlt3_8_9 := ltOf hn3_8
          rw [← hy3_8_9] at hn3_8_9 ⊢
          obtain ⟨K3_8_9, hK3_8_9⟩ : ∃ K, K = y3_8.heap.size := ⟨_, rfl⟩
          rw [← hK3_8_9] at hn3_8_9 hl3_8_9 ⊢
          have hKe3_8_9 : K3_8_9 = y3_8.heap.size := hK3_8_9
          clear hy3_8_9 hK3_8_9
          refine ⟨KS.of hk3_8_9, ?_⟩
          refine wpAnyH_all (rs := [7]) (by kernel_rfl) (by simp) ?_
          intro i hi
          obtain rfl : i = 7 := by simpa using hi
          clear hi
          refine op_call (d := 103) rfl rfl rfl (by go_simp) ((HMF.out _).mono ?_)
          rintro e y3_8_9_7 ⟨rfl, hb3_8_9_7⟩
          have hk3_8_9_7 : Below V5.heap.size V5 y3_8_9_7 := (hk3_8_9).trans (hb3_8_9_7.mono (hk3_8_9).size)
          have ha3_8_9_7 := (hb3_8_9_7.block _ (ltOf ha3_8_9)).trans ha3_8_9
          have hb3_8_9_7 := (hb3_8_9_7.block _ (ltOf hn3_8_9)).trans hn3_8_9
          refine ⟨_, rfl, KS.of hk3_8_9_7, ?_⟩
          simp only [Act.put, List.setIfInBounds_toArray, List.set_cons_zero, List.set_cons_succ]
          obtain ⟨f1, f2, f3, f4, f5⟩ := fin2 (x := .int .i64 Ec) (y := .int .i64 En) (z := .int .i64 Ed) (u := .int .i64 Fc) (v := .int .i64 Fn) (t := .int .i64 Fd) hk3_8_9_7 ha3_8_9_7 hb3_8_9_7 (by omega) (by omega) (by omega)
          refine wpAnyH_all (rs := [10]) (by kernel_rfl) (by simp) ?_
          intro i hi
          obtain rfl : i = 10 := by simpa using hi
          refine op_store rfl rfl rfl _ _ _ rfl K3_8 #[.int .i64 Ec, .int .i64 En, .int .i64 Ed] rfl rfl (there_three ha3_8_9_7) (by kernel_rfl) (by simp [Value.oneCell']) ?_
          refine ⟨f1, wpAnyH_all (rs := [11]) (by kernel_rfl) (by simp) ?_⟩
          intro i hi
          obtain rfl : i = 11 := by simpa using hi
          refine op_store rfl rfl rfl _ _ _ rfl K3_8_9 #[.int .i64 Fc, .int .i64 Fn, .int .i64 Fd] rfl rfl (there_three f2) (by kernel_rfl) (by simp [Value.oneCell']) ?_
          refine ⟨f3, wpAnyH_done (by kernel_rfl) (NoPanic.normal ?_) _⟩
          go_wp2_with (fail)
          go_meet
          exact ⟨K3_8, K3_8_9, rfl, rfl, f3.2, f4, f5⟩
      · clear hi
        refine op_val (d := 10) (v := .pointer (some ⟨y3.heap.size, 0, none⟩)) (w' := y3.alloc (.cells #[.int .i64 0, .int .i64 0, .int .i64 0] 90)) rfl rfl rfl (by go_simp; try rfl) ?_
        simp only [Act.put, List.setIfInBounds_toArray, List.set_cons_zero, List.set_cons_succ]
        have hn3_9 := heap_alloc_new y3 (.cells #[.int .i64 0, .int .i64 0, .int .i64 0] 90)
        have hl3_9 : V5.heap.size ≤ y3.heap.size := (hk3).size
        obtain ⟨y3_9, hy3_9⟩ : ∃ y, y = y3.alloc (.cells #[.int .i64 0, .int .i64 0, .int .i64 0] 90) := ⟨_, rfl⟩
        have hbb3_9 : Below y3.heap.size y3 y3_9 := by rw [hy3_9]; exact (Below.refl _ _).alloc (Nat.le_refl _) _
        have hk3_9 : Below V5.heap.size V5 y3_9 := (hk3).trans (hbb3_9.mono hl3_9)
        rw [← hy3_9] at hn3_9 ⊢
        obtain ⟨K3_9, hK3_9⟩ : ∃ K, K = y3.heap.size := ⟨_, rfl⟩
        rw [← hK3_9] at hn3_9 hl3_9 ⊢
        have hKe3_9 : K3_9 = y3.heap.size := hK3_9
        clear hy3_9 hK3_9
        refine ⟨KS.of hk3_9, ?_⟩
        refine wpAnyH_all (rs := [7, 8]) (by kernel_rfl) (by simp) ?_
        intro i hi
        rcases (by simpa using hi : i = 7 ∨ i = 8) with rfl | rfl
        · clear hi
          refine op_call (d := 103) rfl rfl rfl (by go_simp) ((HMF.out _).mono ?_)
          rintro e y3_9_7 ⟨rfl, hb3_9_7⟩
          have hk3_9_7 : Below V5.heap.size V5 y3_9_7 := (hk3_9).trans (hb3_9_7.mono (hk3_9).size)
          have hb3_9_7 := (hb3_9_7.block _ (ltOf hn3_9)).trans hn3_9
          refine ⟨_, rfl, KS.of hk3_9_7, ?_⟩
          simp only [Act.put, List.setIfInBounds_toArray, List.set_cons_zero, List.set_cons_succ]
          refine wpAnyH_all (rs := [8]) (by kernel_rfl) (by simp) ?_
          intro i hi
          obtain rfl : i = 8 := by simpa using hi
          clear hi
          refine op_val (d := 9) (v := .pointer (some ⟨y3_9_7.heap.size, 0, none⟩)) (w' := y3_9_7.alloc (.cells #[.int .i64 0, .int .i64 0, .int .i64 0] 90)) rfl rfl rfl (by go_simp; try rfl) ?_
          simp only [Act.put, List.setIfInBounds_toArray, List.set_cons_zero, List.set_cons_succ]
          have hn3_9_7_8 := heap_alloc_new y3_9_7 (.cells #[.int .i64 0, .int .i64 0, .int .i64 0] 90)
          have hl3_9_7_8 : V5.heap.size ≤ y3_9_7.heap.size := (hk3_9_7).size
          obtain ⟨y3_9_7_8, hy3_9_7_8⟩ : ∃ y, y = y3_9_7.alloc (.cells #[.int .i64 0, .int .i64 0, .int .i64 0] 90) := ⟨_, rfl⟩
          have hbb3_9_7_8 : Below y3_9_7.heap.size y3_9_7 y3_9_7_8 := by rw [hy3_9_7_8]; exact (Below.refl _ _).alloc (Nat.le_refl _) _
          have hk3_9_7_8 : Below V5.heap.size V5 y3_9_7_8 := (hk3_9_7).trans (hbb3_9_7_8.mono hl3_9_7_8)
          have hb3_9_7_8 := (hbb3_9_7_8.block _ (ltOf hb3_9_7)).trans hb3_9_7
          have hlt3_9_7_8 := ltOf hb3_9_7
          rw [← hy3_9_7_8] at hn3_9_7_8 ⊢
          obtain ⟨K3_9_7_8, hK3_9_7_8⟩ : ∃ K, K = y3_9_7.heap.size := ⟨_, rfl⟩
          rw [← hK3_9_7_8] at hn3_9_7_8 hl3_9_7_8 ⊢
          have hKe3_9_7_8 : K3_9_7_8 = y3_9_7.heap.size := hK3_9_7_8
          clear hy3_9_7_8 hK3_9_7_8
          refine ⟨KS.of hk3_9_7_8, ?_⟩
          obtain ⟨f1, f2, f3, f4, f5⟩ := fin2 (x := .int .i64 Ec) (y := .int .i64 En) (z := .int .i64 Ed) (u := .int .i64 Fc) (v := .int .i64 Fn) (t := .int .i64 Fd) hk3_9_7_8 hn3_9_7_8 hb3_9_7_8 (by omega) (by omega) (by omega)
          refine wpAnyH_all (rs := [10]) (by kernel_rfl) (by simp) ?_
          intro i hi
          obtain rfl : i = 10 := by simpa using hi
          refine op_store rfl rfl rfl _ _ _ rfl K3_9_7_8 #[.int .i64 Ec, .int .i64 En, .int .i64 Ed] rfl rfl (there_three hn3_9_7_8) (by kernel_rfl) (by simp [Value.oneCell']) ?_
          refine ⟨f1, wpAnyH_all (rs := [11]) (by kernel_rfl) (by simp) ?_⟩
          intro i hi
          obtain rfl : i = 11 := by simpa using hi
          refine op_store rfl rfl rfl _ _ _ rfl K3_9 #[.int .i64 Fc, .int .i64 Fn, .int .i64 Fd] rfl rfl (there_three f2) (by kernel_rfl) (by simp [Value.oneCell']) ?_
          refine ⟨f3, wpAnyH_done (by kernel_rfl) (NoPanic.normal ?_) _⟩
          go_wp2_with (fail)
          go_meet
          exact ⟨K3_9_7_8, K3_9, rfl, rfl, f3.2, f4, f5⟩
        · clear hi
          refine op_val (d := 9) (v := .pointer (some ⟨y3_9.heap.size, 0, none⟩)) (w' := y3_9.alloc (.cells #[.int .i64 0, .int .i64 0, .int .i64 0] 90)) rfl rfl rfl (by go_simp; try rfl) ?_
          simp only [Act.put, List.setIfInBounds_toArray, List.set_cons_zero, List.set_cons_succ]
          have hn3_9_8 := heap_alloc_new y3_9 (.cells #[.int .i64 0, .int .i64 0, .int .i64 0] 90)
          have hl3_9_8 : V5.heap.size ≤ y3_9.heap.size := (hk3_9).size
          obtain ⟨y3_9_8, hy3_9_8⟩ : ∃ y, y = y3_9.alloc (.cells #[.int .i64 0, .int .i64 0, .int .i64 0] 90) := ⟨_, rfl⟩
          have hbb3_9_8 : Below y3_9.heap.size y3_9 y3_9_8 := by rw [hy3_9_8]; exact (Below.refl _ _).alloc (Nat.le_refl _) _
          have hk3_9_8 : Below V5.heap.size V5 y3_9_8 := (hk3_9).trans (hbb3_9_8.mono hl3_9_8)
          have hb3_9_8 := (hbb3_9_8.block _ (ltOf hn3_9)).trans hn3_9
          have hlt3_9_8 := ltOf hn3_9
          rw [← hy3_9_8] at hn3_9_8 ⊢
          obtain ⟨K3_9_8, hK3_9_8⟩ : ∃ K, K = y3_9.heap.size := ⟨_, rfl⟩
          rw [← hK3_9_8] at hn3_9_8 hl3_9_8 ⊢
          have hKe3_9_8 : K3_9_8 = y3_9.heap.size := hK3_9_8
          clear hy3_9_8 hK3_9_8
          refine ⟨KS.of hk3_9_8, ?_⟩
          refine wpAnyH_all (rs := [7]) (by kernel_rfl) (by simp) ?_
          intro i hi
          obtain rfl : i = 7 := by simpa using hi
          clear hi
          refine op_call (d := 103) rfl rfl rfl (by go_simp) ((HMF.out _).mono ?_)
          rintro e y3_9_8_7 ⟨rfl, hb3_9_8_7⟩
          have hk3_9_8_7 : Below V5.heap.size V5 y3_9_8_7 := (hk3_9_8).trans (hb3_9_8_7.mono (hk3_9_8).size)
          have ha3_9_8_7 := (hb3_9_8_7.block _ (ltOf hn3_9_8)).trans hn3_9_8
          have hb3_9_8_7 := (hb3_9_8_7.block _ (ltOf hb3_9_8)).trans hb3_9_8
          refine ⟨_, rfl, KS.of hk3_9_8_7, ?_⟩
          simp only [Act.put, List.setIfInBounds_toArray, List.set_cons_zero, List.set_cons_succ]
          obtain ⟨f1, f2, f3, f4, f5⟩ := fin2 (x := .int .i64 Ec) (y := .int .i64 En) (z := .int .i64 Ed) (u := .int .i64 Fc) (v := .int .i64 Fn) (t := .int .i64 Fd) hk3_9_8_7 ha3_9_8_7 hb3_9_8_7 (by omega) (by omega) (by omega)
          refine wpAnyH_all (rs := [10]) (by kernel_rfl) (by simp) ?_
          intro i hi
          obtain rfl : i = 10 := by simpa using hi
          refine op_store rfl rfl rfl _ _ _ rfl K3_9_8 #[.int .i64 Ec, .int .i64 En, .int .i64 Ed] rfl rfl (there_three ha3_9_8_7) (by kernel_rfl) (by simp [Value.oneCell']) ?_
          refine ⟨f1, wpAnyH_all (rs := [11]) (by kernel_rfl) (by simp) ?_⟩
          intro i hi
          obtain rfl : i = 11 := by simpa using hi
          refine op_store rfl rfl rfl _ _ _ rfl K3_9 #[.int .i64 Fc, .int .i64 Fn, .int .i64 Fd] rfl rfl (there_three f2) (by kernel_rfl) (by simp [Value.oneCell']) ?_
          refine ⟨f3, wpAnyH_done (by kernel_rfl) (NoPanic.normal ?_) _⟩
          go_wp2_with (fail)
          go_meet
          exact ⟨K3_9_8, K3_9, rfl, rfl, f3.2, f4, f5⟩
    · clear hi
      refine op_val (d := 9) (v := .pointer (some ⟨V5.drew.heap.size, 0, none⟩)) (w' := V5.drew.alloc (.cells #[.int .i64 0, .int .i64 0, .int .i64 0] 90)) rfl rfl rfl (by go_simp; try rfl) ?_
      simp only [Act.put, List.setIfInBounds_toArray, List.set_cons_zero, List.set_cons_succ]
      have hn8 := heap_alloc_new V5.drew (.cells #[.int .i64 0, .int .i64 0, .int .i64 0] 90)
      have hl8 : V5.heap.size ≤ V5.drew.heap.size := (hS.2).size
      obtain ⟨y8, hy8⟩ : ∃ y, y = V5.drew.alloc (.cells #[.int .i64 0, .int .i64 0, .int .i64 0] 90) := ⟨_, rfl⟩
      have hbb8 : Below V5.drew.heap.size V5.drew y8 := by rw [hy8]; exact (Below.refl _ _).alloc (Nat.le_refl _) _
      have hk8 : Below V5.heap.size V5 y8 := (hS.2).trans (hbb8.mono hl8)
      rw [← hy8] at hn8 ⊢
      obtain ⟨K8, hK8⟩ : ∃ K, K = V5.drew.heap.size := ⟨_, rfl⟩
      rw [← hK8] at hn8 hl8 ⊢
      have hKe8 : K8 = V5.drew.heap.size := hK8
      clear hy8 hK8
      refine ⟨KS.of hk8, ?_⟩
      refine wpAnyH_all (rs := [3, 9]) (by kernel_rfl) (by simp) ?_
      intro i hi
      rcases (by simpa using hi : i = 3 ∨ i = 9) with rfl | rfl
      · clear hi
        refine op_call (d := 99) rfl rfl rfl (by go_simp) ((HME.out _).mono ?_)
        rintro e y8_3 ⟨rfl, hb8_3⟩
        have hk8_3 : Below V5.heap.size V5 y8_3 := (hk8).trans (hb8_3.mono (hk8).size)
        have ha8_3 := (hb8_3.block _ (ltOf hn8)).trans hn8
        refine ⟨_, rfl, KS.of hk8_3, ?_⟩
        simp only [Act.put, List.setIfInBounds_toArray, List.set_cons_zero, List.set_cons_succ]
        refine wpAnyH_all (rs := [7, 9]) (by kernel_rfl) (by simp) ?_
        intro i hi
        rcases (by simpa using hi : i = 7 ∨ i = 9) with rfl | rfl
        · clear hi
          refine op_call (d := 103) rfl rfl rfl (by go_simp) ((HMF.out _).mono ?_)
          rintro e y8_3_7 ⟨rfl, hb8_3_7⟩
          have hk8_3_7 : Below V5.heap.size V5 y8_3_7 := (hk8_3).trans (hb8_3_7.mono (hk8_3).size)
          have ha8_3_7 := (hb8_3_7.block _ (ltOf ha8_3)).trans ha8_3
          refine ⟨_, rfl, KS.of hk8_3_7, ?_⟩
          simp only [Act.put, List.setIfInBounds_toArray, List.set_cons_zero, List.set_cons_succ]
          refine wpAnyH_all (rs := [9]) (by kernel_rfl) (by simp) ?_
          intro i hi
          obtain rfl : i = 9 := by simpa using hi
          clear hi
          refine op_val (d := 10) (v := .pointer (some ⟨y8_3_7.heap.size, 0, none⟩)) (w' := y8_3_7.alloc (.cells #[.int .i64 0, .int .i64 0, .int .i64 0] 90)) rfl rfl rfl (by go_simp; try rfl) ?_
          simp only [Act.put, List.setIfInBounds_toArray, List.set_cons_zero, List.set_cons_succ]
          have hn8_3_7_9 := heap_alloc_new y8_3_7 (.cells #[.int .i64 0, .int .i64 0, .int .i64 0] 90)
          have hl8_3_7_9 : V5.heap.size ≤ y8_3_7.heap.size := (hk8_3_7).size
          obtain ⟨y8_3_7_9, hy8_3_7_9⟩ : ∃ y, y = y8_3_7.alloc (.cells #[.int .i64 0, .int .i64 0, .int .i64 0] 90) := ⟨_, rfl⟩
          have hbb8_3_7_9 : Below y8_3_7.heap.size y8_3_7 y8_3_7_9 := by rw [hy8_3_7_9]; exact (Below.refl _ _).alloc (Nat.le_refl _) _
          have hk8_3_7_9 : Below V5.heap.size V5 y8_3_7_9 := (hk8_3_7).trans (hbb8_3_7_9.mono hl8_3_7_9)
          have ha8_3_7_9 := (hbb8_3_7_9.block _ (ltOf ha8_3_7)).trans ha8_3_7
          have hlt8_3_7_9 := ltOf ha8_3_7
          rw [← hy8_3_7_9] at hn8_3_7_9 ⊢
          obtain ⟨K8_3_7_9, hK8_3_7_9⟩ : ∃ K, K = y8_3_7.heap.size := ⟨_, rfl⟩
          rw [← hK8_3_7_9] at hn8_3_7_9 hl8_3_7_9 ⊢
          have hKe8_3_7_9 : K8_3_7_9 = y8_3_7.heap.size := hK8_3_7_9
          clear hy8_3_7_9 hK8_3_7_9
          refine ⟨KS.of hk8_3_7_9, ?_⟩
          obtain ⟨f1, f2, f3, f4, f5⟩ := fin2 (x := .int .i64 Ec) (y := .int .i64 En) (z := .int .i64 Ed) (u := .int .i64 Fc) (v := .int .i64 Fn) (t := .int .i64 Fd) hk8_3_7_9 ha8_3_7_9 hn8_3_7_9 (by omega) (by omega) (by omega)
          refine wpAnyH_all (rs := [10]) (by kernel_rfl) (by simp) ?_
          intro i hi
          obtain rfl : i = 10 := by simpa using hi
          refine op_store rfl rfl rfl _ _ _ rfl K8 #[.int .i64 Ec, .int .i64 En, .int .i64 Ed] rfl rfl (there_three ha8_3_7_9) (by kernel_rfl) (by simp [Value.oneCell']) ?_
          refine ⟨f1, wpAnyH_all (rs := [11]) (by kernel_rfl) (by simp) ?_⟩
          intro i hi
          obtain rfl : i = 11 := by simpa using hi
          refine op_store rfl rfl rfl _ _ _ rfl K8_3_7_9 #[.int .i64 Fc, .int .i64 Fn, .int .i64 Fd] rfl rfl (there_three f2) (by kernel_rfl) (by simp [Value.oneCell']) ?_
          refine ⟨f3, wpAnyH_done (by kernel_rfl) (NoPanic.normal ?_) _⟩
          go_wp2_with (fail)
          go_meet
          exact ⟨K8, K8_3_7_9, rfl, rfl, f3.2, f4, f5⟩
        · clear hi
          refine op_val (d := 10) (v := .pointer (some ⟨y8_3.heap.size, 0, none⟩)) (w' := y8_3.alloc (.cells #[.int .i64 0, .int .i64 0, .int .i64 0] 90)) rfl rfl rfl (by go_simp; try rfl) ?_
          simp only [Act.put, List.setIfInBounds_toArray, List.set_cons_zero, List.set_cons_succ]
          have hn8_3_9 := heap_alloc_new y8_3 (.cells #[.int .i64 0, .int .i64 0, .int .i64 0] 90)
          have hl8_3_9 : V5.heap.size ≤ y8_3.heap.size := (hk8_3).size
          obtain ⟨y8_3_9, hy8_3_9⟩ : ∃ y, y = y8_3.alloc (.cells #[.int .i64 0, .int .i64 0, .int .i64 0] 90) := ⟨_, rfl⟩
          have hbb8_3_9 : Below y8_3.heap.size y8_3 y8_3_9 := by rw [hy8_3_9]; exact (Below.refl _ _).alloc (Nat.le_refl _) _
          have hk8_3_9 : Below V5.heap.size V5 y8_3_9 := (hk8_3).trans (hbb8_3_9.mono hl8_3_9)
          have ha8_3_9 := (hbb8_3_9.block _ (ltOf ha8_3)).trans ha8_3
          have hlt8_3_9 := ltOf ha8_3
          rw [← hy8_3_9] at hn8_3_9 ⊢
          obtain ⟨K8_3_9, hK8_3_9⟩ : ∃ K, K = y8_3.heap.size := ⟨_, rfl⟩
          rw [← hK8_3_9] at hn8_3_9 hl8_3_9 ⊢
          have hKe8_3_9 : K8_3_9 = y8_3.heap.size := hK8_3_9
          clear hy8_3_9 hK8_3_9
          refine ⟨KS.of hk8_3_9, ?_⟩
          refine wpAnyH_all (rs := [7]) (by kernel_rfl) (by simp) ?_
          intro i hi
          obtain rfl : i = 7 := by simpa using hi
          clear hi
          refine op_call (d := 103) rfl rfl rfl (by go_simp) ((HMF.out _).mono ?_)
          rintro e y8_3_9_7 ⟨rfl, hb8_3_9_7⟩
          have hk8_3_9_7 : Below V5.heap.size V5 y8_3_9_7 := (hk8_3_9).trans (hb8_3_9_7.mono (hk8_3_9).size)
          have ha8_3_9_7 := (hb8_3_9_7.block _ (ltOf ha8_3_9)).trans ha8_3_9
          have hb8_3_9_7 := (hb8_3_9_7.block _ (ltOf hn8_3_9)).trans hn8_3_9
          refine ⟨_, rfl, KS.of hk8_3_9_7, ?_⟩
          simp only [Act.put, List.setIfInBounds_toArray, List.set_cons_zero, List.set_cons_succ]
          obtain ⟨f1, f2, f3, f4, f5⟩ := fin2 (x := .int .i64 Ec) (y := .int .i64 En) (z := .int .i64 Ed) (u := .int .i64 Fc) (v := .int .i64 Fn) (t := .int .i64 Fd) hk8_3_9_7 ha8_3_9_7 hb8_3_9_7 (by omega) (by omega) (by omega)
          refine wpAnyH_all (rs := [10]) (by kernel_rfl) (by simp) ?_
          intro i hi
          obtain rfl : i = 10 := by simpa using hi
          refine op_store rfl rfl rfl _ _ _ rfl K8 #[.int .i64 Ec, .int .i64 En, .int .i64 Ed] rfl rfl (there_three ha8_3_9_7) (by kernel_rfl) (by simp [Value.oneCell']) ?_
          refine ⟨f1, wpAnyH_all (rs := [11]) (by kernel_rfl) (by simp) ?_⟩
          intro i hi
          obtain rfl : i = 11 := by simpa using hi
          refine op_store rfl rfl rfl _ _ _ rfl K8_3_9 #[.int .i64 Fc, .int .i64 Fn, .int .i64 Fd] rfl rfl (there_three f2) (by kernel_rfl) (by simp [Value.oneCell']) ?_
          refine ⟨f3, wpAnyH_done (by kernel_rfl) (NoPanic.normal ?_) _⟩
          go_wp2_with (fail)
          go_meet
          exact ⟨K8, K8_3_9, rfl, rfl, f3.2, f4, f5⟩
      · clear hi
        refine op_val (d := 10) (v := .pointer (some ⟨y8.heap.size, 0, none⟩)) (w' := y8.alloc (.cells #[.int .i64 0, .int .i64 0, .int .i64 0] 90)) rfl rfl rfl (by go_simp; try rfl) ?_
        simp only [Act.put, List.setIfInBounds_toArray, List.set_cons_zero, List.set_cons_succ]
        have hn8_9 := heap_alloc_new y8 (.cells #[.int .i64 0, .int .i64 0, .int .i64 0] 90)
        have hl8_9 : V5.heap.size ≤ y8.heap.size := (hk8).size
        obtain ⟨y8_9, hy8_9⟩ : ∃ y, y = y8.alloc (.cells #[.int .i64 0, .int .i64 0, .int .i64 0] 90) := ⟨_, rfl⟩
        have hbb8_9 : Below y8.heap.size y8 y8_9 := by rw [hy8_9]; exact (Below.refl _ _).alloc (Nat.le_refl _) _
        have hk8_9 : Below V5.heap.size V5 y8_9 := (hk8).trans (hbb8_9.mono hl8_9)
        have ha8_9 := (hbb8_9.block _ (ltOf hn8)).trans hn8
        have hlt8_9 := ltOf hn8
        rw [← hy8_9] at hn8_9 ⊢
        obtain ⟨K8_9, hK8_9⟩ : ∃ K, K = y8.heap.size := ⟨_, rfl⟩
        rw [← hK8_9] at hn8_9 hl8_9 ⊢
        have hKe8_9 : K8_9 = y8.heap.size := hK8_9
        clear hy8_9 hK8_9
        refine ⟨KS.of hk8_9, ?_⟩
        refine wpAnyH_all (rs := [3]) (by kernel_rfl) (by simp) ?_
        intro i hi
        obtain rfl : i = 3 := by simpa using hi
        clear hi
        refine op_call (d := 99) rfl rfl rfl (by go_simp) ((HME.out _).mono ?_)
        rintro e y8_9_3 ⟨rfl, hb8_9_3⟩
        have hk8_9_3 : Below V5.heap.size V5 y8_9_3 := (hk8_9).trans (hb8_9_3.mono (hk8_9).size)
        have ha8_9_3 := (hb8_9_3.block _ (ltOf ha8_9)).trans ha8_9
        have hb8_9_3 := (hb8_9_3.block _ (ltOf hn8_9)).trans hn8_9
        refine ⟨_, rfl, KS.of hk8_9_3, ?_⟩
        simp only [Act.put, List.setIfInBounds_toArray, List.set_cons_zero, List.set_cons_succ]
        refine wpAnyH_all (rs := [7]) (by kernel_rfl) (by simp) ?_
        intro i hi
        obtain rfl : i = 7 := by simpa using hi
        clear hi
        refine op_call (d := 103) rfl rfl rfl (by go_simp) ((HMF.out _).mono ?_)
        rintro e y8_9_3_7 ⟨rfl, hb8_9_3_7⟩
        have hk8_9_3_7 : Below V5.heap.size V5 y8_9_3_7 := (hk8_9_3).trans (hb8_9_3_7.mono (hk8_9_3).size)
        have ha8_9_3_7 := (hb8_9_3_7.block _ (ltOf ha8_9_3)).trans ha8_9_3
        have hb8_9_3_7 := (hb8_9_3_7.block _ (ltOf hb8_9_3)).trans hb8_9_3
        refine ⟨_, rfl, KS.of hk8_9_3_7, ?_⟩
        simp only [Act.put, List.setIfInBounds_toArray, List.set_cons_zero, List.set_cons_succ]
        obtain ⟨f1, f2, f3, f4, f5⟩ := fin2 (x := .int .i64 Ec) (y := .int .i64 En) (z := .int .i64 Ed) (u := .int .i64 Fc) (v := .int .i64 Fn) (t := .int .i64 Fd) hk8_9_3_7 ha8_9_3_7 hb8_9_3_7 (by omega) (by omega) (by omega)
        refine wpAnyH_all (rs := [10]) (by kernel_rfl) (by simp) ?_
        intro i hi
        obtain rfl : i = 10 := by simpa using hi
        refine op_store rfl rfl rfl _ _ _ rfl K8 #[.int .i64 Ec, .int .i64 En, .int .i64 Ed] rfl rfl (there_three ha8_9_3_7) (by kernel_rfl) (by simp [Value.oneCell']) ?_
        refine ⟨f1, wpAnyH_all (rs := [11]) (by kernel_rfl) (by simp) ?_⟩
        intro i hi
        obtain rfl : i = 11 := by simpa using hi
        refine op_store rfl rfl rfl _ _ _ rfl K8_9 #[.int .i64 Fc, .int .i64 Fn, .int .i64 Fd] rfl rfl (there_three f2) (by kernel_rfl) (by simp [Value.oneCell']) ?_
        refine ⟨f3, wpAnyH_done (by kernel_rfl) (NoPanic.normal ?_) _⟩
        go_wp2_with (fail)
        go_meet
        exact ⟨K8, K8_9, rfl, rfl, f3.2, f4, f5⟩
    · clear hi
      refine op_val (d := 10) (v := .pointer (some ⟨V5.drew.heap.size, 0, none⟩)) (w' := V5.drew.alloc (.cells #[.int .i64 0, .int .i64 0, .int .i64 0] 90)) rfl rfl rfl (by go_simp; try rfl) ?_
      simp only [Act.put, List.setIfInBounds_toArray, List.set_cons_zero, List.set_cons_succ]
      have hn9 := heap_alloc_new V5.drew (.cells #[.int .i64 0, .int .i64 0, .int .i64 0] 90)
      have hl9 : V5.heap.size ≤ V5.drew.heap.size := (hS.2).size
      obtain ⟨y9, hy9⟩ : ∃ y, y = V5.drew.alloc (.cells #[.int .i64 0, .int .i64 0, .int .i64 0] 90) := ⟨_, rfl⟩
      have hbb9 : Below V5.drew.heap.size V5.drew y9 := by rw [hy9]; exact (Below.refl _ _).alloc (Nat.le_refl _) _
      have hk9 : Below V5.heap.size V5 y9 := (hS.2).trans (hbb9.mono hl9)
      rw [← hy9] at hn9 ⊢
      obtain ⟨K9, hK9⟩ : ∃ K, K = V5.drew.heap.size := ⟨_, rfl⟩
      rw [← hK9] at hn9 hl9 ⊢
      have hKe9 : K9 = V5.drew.heap.size := hK9
      clear hy9 hK9
      refine ⟨KS.of hk9, ?_⟩
      refine wpAnyH_all (rs := [3, 8]) (by kernel_rfl) (by simp) ?_
      intro i hi
      rcases (by simpa using hi : i = 3 ∨ i = 8) with rfl | rfl
      · clear hi
        refine op_call (d := 99) rfl rfl rfl (by go_simp) ((HME.out _).mono ?_)
        rintro e y9_3 ⟨rfl, hb9_3⟩
        have hk9_3 : Below V5.heap.size V5 y9_3 := (hk9).trans (hb9_3.mono (hk9).size)
        have hb9_3 := (hb9_3.block _ (ltOf hn9)).trans hn9
        refine ⟨_, rfl, KS.of hk9_3, ?_⟩
        simp only [Act.put, List.setIfInBounds_toArray, List.set_cons_zero, List.set_cons_succ]
        refine wpAnyH_all (rs := [7, 8]) (by kernel_rfl) (by simp) ?_
        intro i hi
        rcases (by simpa using hi : i = 7 ∨ i = 8) with rfl | rfl
        · clear hi
          refine op_call (d := 103) rfl rfl rfl (by go_simp) ((HMF.out _).mono ?_)
          rintro e y9_3_7 ⟨rfl, hb9_3_7⟩
          have hk9_3_7 : Below V5.heap.size V5 y9_3_7 := (hk9_3).trans (hb9_3_7.mono (hk9_3).size)
          have hb9_3_7 := (hb9_3_7.block _ (ltOf hb9_3)).trans hb9_3
          refine ⟨_, rfl, KS.of hk9_3_7, ?_⟩
          simp only [Act.put, List.setIfInBounds_toArray, List.set_cons_zero, List.set_cons_succ]
          refine wpAnyH_all (rs := [8]) (by kernel_rfl) (by simp) ?_
          intro i hi
          obtain rfl : i = 8 := by simpa using hi
          clear hi
          refine op_val (d := 9) (v := .pointer (some ⟨y9_3_7.heap.size, 0, none⟩)) (w' := y9_3_7.alloc (.cells #[.int .i64 0, .int .i64 0, .int .i64 0] 90)) rfl rfl rfl (by go_simp; try rfl) ?_
          simp only [Act.put, List.setIfInBounds_toArray, List.set_cons_zero, List.set_cons_succ]
          have hn9_3_7_8 := heap_alloc_new y9_3_7 (.cells #[.int .i64 0, .int .i64 0, .int .i64 0] 90)
          have hl9_3_7_8 : V5.heap.size ≤ y9_3_7.heap.size := (hk9_3_7).size
          obtain ⟨y9_3_7_8, hy9_3_7_8⟩ : ∃ y, y = y9_3_7.alloc (.cells #[.int .i64 0, .int .i64 0, .int .i64 0] 90) := ⟨_, rfl⟩
          have hbb9_3_7_8 : Below y9_3_7.heap.size y9_3_7 y9_3_7_8 := by rw [hy9_3_7_8]; exact (Below.refl _ _).alloc (Nat.le_refl _) _
          have hk9_3_7_8 : Below V5.heap.size V5 y9_3_7_8 := (hk9_3_7).trans (hbb9_3_7_8.mono hl9_3_7_8)
          have hb9_3_7_8 := (hbb9_3_7_8.block _ (ltOf hb9_3_7)).trans hb9_3_7
          have hlt9_3_7_8 := ltOf hb9_3_7
          rw [← hy9_3_7_8] at hn9_3_7_8 ⊢
          obtain ⟨K9_3_7_8, hK9_3_7_8⟩ : ∃ K, K = y9_3_7.heap.size := ⟨_, rfl⟩
          rw [← hK9_3_7_8] at hn9_3_7_8 hl9_3_7_8 ⊢
          have hKe9_3_7_8 : K9_3_7_8 = y9_3_7.heap.size := hK9_3_7_8
          clear hy9_3_7_8 hK9_3_7_8
          refine ⟨KS.of hk9_3_7_8, ?_⟩
          obtain ⟨f1, f2, f3, f4, f5⟩ := fin2 (x := .int .i64 Ec) (y := .int .i64 En) (z := .int .i64 Ed) (u := .int .i64 Fc) (v := .int .i64 Fn) (t := .int .i64 Fd) hk9_3_7_8 hn9_3_7_8 hb9_3_7_8 (by omega) (by omega) (by omega)
          refine wpAnyH_all (rs := [10]) (by kernel_rfl) (by simp) ?_
          intro i hi
          obtain rfl : i = 10 := by simpa using hi
          refine op_store rfl rfl rfl _ _ _ rfl K9_3_7_8 #[.int .i64 Ec, .int .i64 En, .int .i64 Ed] rfl rfl (there_three hn9_3_7_8) (by kernel_rfl) (by simp [Value.oneCell']) ?_
          refine ⟨f1, wpAnyH_all (rs := [11]) (by kernel_rfl) (by simp) ?_⟩
          intro i hi
          obtain rfl : i = 11 := by simpa using hi
          refine op_store rfl rfl rfl _ _ _ rfl K9 #[.int .i64 Fc, .int .i64 Fn, .int .i64 Fd] rfl rfl (there_three f2) (by kernel_rfl) (by simp [Value.oneCell']) ?_
          refine ⟨f3, wpAnyH_done (by kernel_rfl) (NoPanic.normal ?_) _⟩
          go_wp2_with (fail)
          go_meet
          exact ⟨K9_3_7_8, K9, rfl, rfl, f3.2, f4, f5⟩
        · clear hi
          refine op_val (d := 9) (v := .pointer (some ⟨y9_3.heap.size, 0, none⟩)) (w' := y9_3.alloc (.cells #[.int .i64 0, .int .i64 0, .int .i64 0] 90)) rfl rfl rfl (by go_simp; try rfl) ?_
          simp only [Act.put, List.setIfInBounds_toArray, List.set_cons_zero, List.set_cons_succ]
          have hn9_3_8 := heap_alloc_new y9_3 (.cells #[.int .i64 0, .int .i64 0, .int .i64 0] 90)
          have hl9_3_8 : V5.heap.size ≤ y9_3.heap.size := (hk9_3).size
          obtain ⟨y9_3_8, hy9_3_8⟩ : ∃ y, y = y9_3.alloc (.cells #[.int .i64 0, .int .i64 0, .int .i64 0] 90) := ⟨_, rfl⟩
          have hbb9_3_8 : Below y9_3.heap.size y9_3 y9_3_8 := by rw [hy9_3_8]; exact (Below.refl _ _).alloc (Nat.le_refl _) _
          have hk9_3_8 : Below V5.heap.size V5 y9_3_8 := (hk9_3).trans (hbb9_3_8.mono hl9_3_8)
          have hb9_3_8 := (hbb9_3_8.block _ (ltOf hb9_3)).trans hb9_3
          have hlt9_3_8 := ltOf hb9_3
          rw [← hy9_3_8] at hn9_3_8 ⊢
          obtain ⟨K9_3_8, hK9_3_8⟩ : ∃ K, K = y9_3.heap.size := ⟨_, rfl⟩
          rw [← hK9_3_8] at hn9_3_8 hl9_3_8 ⊢
          have hKe9_3_8 : K9_3_8 = y9_3.heap.size := hK9_3_8
          clear hy9_3_8 hK9_3_8
          refine ⟨KS.of hk9_3_8, ?_⟩
          refine wpAnyH_all (rs := [7]) (by kernel_rfl) (by simp) ?_
          intro i hi
          obtain rfl : i = 7 := by simpa using hi
          clear hi
          refine op_call (d := 103) rfl rfl rfl (by go_simp) ((HMF.out _).mono ?_)
          rintro e y9_3_8_7 ⟨rfl, hb9_3_8_7⟩
          have hk9_3_8_7 : Below V5.heap.size V5 y9_3_8_7 := (hk9_3_8).trans (hb9_3_8_7.mono (hk9_3_8).size)
          have ha9_3_8_7 := (hb9_3_8_7.block _ (ltOf hn9_3_8)).trans hn9_3_8
          have hb9_3_8_7 := (hb9_3_8_7.block _ (ltOf hb9_3_8)).trans hb9_3_8
          refine ⟨_, rfl, KS.of hk9_3_8_7, ?_⟩
          simp only [Act.put, List.setIfInBounds_toArray, List.set_cons_zero, List.set_cons_succ]
          obtain ⟨f1, f2, f3, f4, f5⟩ := fin2 (x := .int .i64 Ec) (y := .int .i64 En) (z := .int .i64 Ed) (u := .int .i64 Fc) (v := .int .i64 Fn) (t := .int .i64 Fd) hk9_3_8_7 ha9_3_8_7 hb9_3_8_7 (by omega) (by omega) (by omega)
          refine wpAnyH_all (rs := [10]) (by kernel_rfl) (by simp) ?_
          intro i hi
          obtain rfl : i = 10 := by simpa using hi
          refine op_store rfl rfl rfl _ _ _ rfl K9_3_8 #[.int .i64 Ec, .int .i64 En, .int .i64 Ed] rfl rfl (there_three ha9_3_8_7) (by kernel_rfl) (by simp [Value.oneCell']) ?_
          refine ⟨f1, wpAnyH_all (rs := [11]) (by kernel_rfl) (by simp) ?_⟩
          intro i hi
          obtain rfl : i = 11 := by simpa using hi
          refine op_store rfl rfl rfl _ _ _ rfl K9 #[.int .i64 Fc, .int .i64 Fn, .int .i64 Fd] rfl rfl (there_three f2) (by kernel_rfl) (by simp [Value.oneCell']) ?_
          refine ⟨f3, wpAnyH_done (by kernel_rfl) (NoPanic.normal ?_) _⟩
          go_wp2_with (fail)
          go_meet
          exact ⟨K9_3_8, K9, rfl, rfl, f3.2, f4, f5⟩
      · clear hi
        refine op_val (d := 9) (v := .pointer (some ⟨y9.heap.size, 0, none⟩)) (w' := y9.alloc (.cells #[.int .i64 0, .int .i64 0, .int .i64 0] 90)) rfl rfl rfl (by go_simp; try rfl) ?_
        simp only [Act.put, List.setIfInBounds_toArray, List.set_cons_zero, List.set_cons_succ]
        have hn9_8 := heap_alloc_new y9 (.cells #[.int .i64 0, .int .i64 0, .int .i64 0] 90)
        have hl9_8 : V5.heap.size ≤ y9.heap.size := (hk9).size
        obtain ⟨y9_8, hy9_8⟩ : ∃ y, y = y9.alloc (.cells #[.int .i64 0, .int .i64 0, .int .i64 0] 90) := ⟨_, rfl⟩
        have hbb9_8 : Below y9.heap.size y9 y9_8 := by rw [hy9_8]; exact (Below.refl _ _).alloc (Nat.le_refl _) _
        have hk9_8 : Below V5.heap.size V5 y9_8 := (hk9).trans (hbb9_8.mono hl9_8)
        have hb9_8 := (hbb9_8.block _ (ltOf hn9)).trans hn9
        have hlt9_8 := ltOf hn9
        rw [← hy9_8] at hn9_8 ⊢
        obtain ⟨K9_8, hK9_8⟩ : ∃ K, K = y9.heap.size := ⟨_, rfl⟩
        rw [← hK9_8] at hn9_8 hl9_8 ⊢
        have hKe9_8 : K9_8 = y9.heap.size := hK9_8
        clear hy9_8 hK9_8
        refine ⟨KS.of hk9_8, ?_⟩
        refine wpAnyH_all (rs := [3]) (by kernel_rfl) (by simp) ?_
        intro i hi
        obtain rfl : i = 3 := by simpa using hi
        clear hi
        refine op_call (d := 99) rfl rfl rfl (by go_simp) ((HME.out _).mono ?_)
        rintro e y9_8_3 ⟨rfl, hb9_8_3⟩
        have hk9_8_3 : Below V5.heap.size V5 y9_8_3 := (hk9_8).trans (hb9_8_3.mono (hk9_8).size)
        have ha9_8_3 := (hb9_8_3.block _ (ltOf hn9_8)).trans hn9_8
        have hb9_8_3 := (hb9_8_3.block _ (ltOf hb9_8)).trans hb9_8
        refine ⟨_, rfl, KS.of hk9_8_3, ?_⟩
        simp only [Act.put, List.setIfInBounds_toArray, List.set_cons_zero, List.set_cons_succ]
        refine wpAnyH_all (rs := [7]) (by kernel_rfl) (by simp) ?_
        intro i hi
        obtain rfl : i = 7 := by simpa using hi
        clear hi
        refine op_call (d := 103) rfl rfl rfl (by go_simp) ((HMF.out _).mono ?_)
        rintro e y9_8_3_7 ⟨rfl, hb9_8_3_7⟩
        have hk9_8_3_7 : Below V5.heap.size V5 y9_8_3_7 := (hk9_8_3).trans (hb9_8_3_7.mono (hk9_8_3).size)
        have ha9_8_3_7 := (hb9_8_3_7.block _ (ltOf ha9_8_3)).trans ha9_8_3
        have hb9_8_3_7 := (hb9_8_3_7.block _ (ltOf hb9_8_3)).trans hb9_8_3
        refine ⟨_, rfl, KS.of hk9_8_3_7, ?_⟩
        simp only [Act.put, List.setIfInBounds_toArray, List.set_cons_zero, List.set_cons_succ]
        obtain ⟨f1, f2, f3, f4, f5⟩ := fin2 (x := .int .i64 Ec) (y := .int .i64 En) (z := .int .i64 Ed) (u := .int .i64 Fc) (v := .int .i64 Fn) (t := .int .i64 Fd) hk9_8_3_7 ha9_8_3_7 hb9_8_3_7 (by omega) (by omega) (by omega)
        refine wpAnyH_all (rs := [10]) (by kernel_rfl) (by simp) ?_
        intro i hi
        obtain rfl : i = 10 := by simpa using hi
        refine op_store rfl rfl rfl _ _ _ rfl K9_8 #[.int .i64 Ec, .int .i64 En, .int .i64 Ed] rfl rfl (there_three ha9_8_3_7) (by kernel_rfl) (by simp [Value.oneCell']) ?_
        refine ⟨f1, wpAnyH_all (rs := [11]) (by kernel_rfl) (by simp) ?_⟩
        intro i hi
        obtain rfl : i = 11 := by simpa using hi
        refine op_store rfl rfl rfl _ _ _ rfl K9 #[.int .i64 Fc, .int .i64 Fn, .int .i64 Fd] rfl rfl (there_three f2) (by kernel_rfl) (by simp [Value.oneCell']) ?_
        refine ⟨f3, wpAnyH_done (by kernel_rfl) (NoPanic.normal ?_) _⟩
        go_wp2_with (fail)
        go_meet
        exact ⟨K9_8, K9, rfl, rfl, f3.2, f4, f5⟩
  case rest =>
  obtain ⟨Ke, Kf, rfl, rfl, hcut⟩ := hcut
  have HWC : Hid (wc.heap[w.heap.size]? = some (.cells #[.int .i64 0, .int .i64 0, .int .i64 0, .int .i64 0, .int .i64 0, .int .i64 0, .int .i64 0, .int .i64 0, .int .i64 0] 55) ∧ Below w.heap.size w wc ∧ wc.heap[Ka]? = some (.cells #[.int .i64 Ac, .int .i64 An, .int .i64 Ad] 90) ∧ wc.heap[Kb]? = some (.cells #[.int .i64 Bc, .int .i64 Bn, .int .i64 Bd] 90) ∧ wc.heap[Ke]? = some (.cells #[.int .i64 Ec, .int .i64 En, .int .i64 Ed] 90) ∧ wc.heap[Kf]? = some (.cells #[.int .i64 Fc, .int .i64 Fn, .int .i64 Fd] 90)) := by
    have hb := hcut.out.1
    exact ⟨(hb.block _ (ltOf HV5.out.1)).trans HV5.out.1, HV5.out.2.1.trans (hb.mono HV5.out.2.1.size), (hb.block _ (ltOf HV5.out.2.2.2.1)).trans HV5.out.2.2.2.1, (hb.block _ (ltOf HV5.out.2.2.2.2)).trans HV5.out.2.2.2.2, hcut.out.2.1, hcut.out.2.2⟩
  clear hcut HV5 HME HMF
  obtain ⟨s0, s1, s2, _, _, _, sl⟩ := three_c HWC.out.2.2.1
  obtain ⟨t0, t1', t2', _, _, _, tl⟩ := three_c HWC.out.2.2.2.1
  obtain ⟨u0, u1, u2, _, _, _, ul⟩ := three_c HWC.out.2.2.2.2.1
  obtain ⟨v0', v1', v2', _, _, _, vl⟩ := three_c HWC.out.2.2.2.2.2
  have HOR : Hid (∀ (W : World) (g : Nat), W.heap[g]? = some (.cells #[.int .i64 Ac, .int .i64 Bc, .int .i64 Ec, .int .i64 Fc] 2) → Calls Try.prog 51 #[.slice (some ⟨g, 0, none⟩) 4 4] W fun e w' => e = .returned (.int .i64 C) ∧ w' = W) := fun W g hg => by rw [HCC.out.1]; exact or_four hg
  go_wp2_with (fail)
  refine (HOR.out _ _ (heap_alloc_new wc _)).mono ?_
  rintro e w6 ⟨rfl, hw6⟩
  have HW6 : Hid (w6.heap[w.heap.size]? = some (.cells #[.int .i64 0, .int .i64 0, .int .i64 0, .int .i64 0, .int .i64 0, .int .i64 0, .int .i64 0, .int .i64 0, .int .i64 0] 55) ∧ Below w.heap.size w w6 ∧ w6.heap[Ka]? = some (.cells #[.int .i64 Ac, .int .i64 An, .int .i64 Ad] 90) ∧ w6.heap[Kb]? = some (.cells #[.int .i64 Bc, .int .i64 Bn, .int .i64 Bd] 90) ∧ w6.heap[Ke]? = some (.cells #[.int .i64 Ec, .int .i64 En, .int .i64 Ed] 90) ∧ w6.heap[Kf]? = some (.cells #[.int .i64 Fc, .int .i64 Fn, .int .i64 Fd] 90)) := by
    have hb : Below wc.heap.size wc w6 := by rw [hw6]; (repeat' (first | (with_reducible exact Below.refl _ _) | (with_reducible assumption) | (with_reducible refine Below.setCell ?_ ?_ _) | (with_reducible refine Below.alloc ?_ ?_ _) | (with_reducible refine below_drewN ?_ _) | (with_reducible refine Below.drew ?_) | (with_reducible exact Nat.le_refl _) | omega | (simp; done) | (simp; omega)))
    have h := HWC.out
    exact ⟨(hb.block _ (ltOf h.1)).trans h.1, h.2.1.trans (hb.mono h.2.1.size), (hb.block _ (ltOf h.2.2.1)).trans h.2.2.1, (hb.block _ (ltOf h.2.2.2.1)).trans h.2.2.2.1, (hb.block _ (ltOf h.2.2.2.2.1)).trans h.2.2.2.2.1, (hb.block _ (ltOf h.2.2.2.2.2)).trans h.2.2.2.2.2⟩
  clear hw6 HWC HOR s0 s1 s2 sl t0 t1' t2' tl u0 u1 u2 ul v0' v1' v2' vl
  obtain ⟨⟨q0, q1, q2, q3, q4, q5, q6, q7, q8⟩, ⟨qf0, qf1, qf2, qf3, qf4, qf5, qf6, qf7, qf8⟩, ql⟩ := nine_c HW6.out.1
  obtain ⟨s0, s1, s2, _, _, _, sl⟩ := three_c HW6.out.2.2.1
  obtain ⟨t0, t1', t2', _, _, _, tl⟩ := three_c HW6.out.2.2.2.1
  obtain ⟨u0, u1, u2, _, _, _, ul⟩ := three_c HW6.out.2.2.2.2.1
  obtain ⟨v0', v1', v2', _, _, _, vl⟩ := three_c HW6.out.2.2.2.2.2
  have HB : Hid (Below w.heap.size w w6) := HW6.out.2.1
  clear HW6
  by_cases hC0 : C = 0
  case neg =>
    have HE : Hid (C = C ∧ M = md0) := ⟨rfl, H.out.2.2.2.2.2 hC0⟩
    have hA9 : (C != 0) = true := by simpa using hC0
    clear hC0
    go_wp2
    try simp only [Exit.inBlock, Exit.then]
    refine bodyPost_ret (by simp [results, Try.results27, go_sem, q0, q1, q2, q3, q4, q5, q6, q7, q8, ql]; try rfl) rfl ⟨by rw [HE.out.2] <;> rfl, ?_⟩
    have hb := HB.out
    (repeat' (first | (with_reducible exact Below.refl _ _) | (with_reducible assumption) | (with_reducible refine Below.setCell ?_ ?_ _) | (with_reducible refine Below.alloc ?_ ?_ _) | (with_reducible refine below_drewN ?_ _) | (with_reducible refine Below.drew ?_) | (with_reducible exact Nat.le_refl _) | omega | (simp; done) | (simp; omega)))

  have HE : Hid (C = 0 ∧ M = ⟨⟨An, Ad⟩, ⟨Bn, Bd⟩, ⟨En, Ed⟩, ⟨Fn, Fd⟩⟩) := ⟨hC0, HCC.out.2 hC0⟩
  have hA9 : (C != 0) = false := by rw [hC0]; rfl
  clear hC0
  go_wp2
  try simp only [Exit.inBlock, Exit.then]
  refine bodyPost_ret (by simp [results, Try.results27, go_sem, q0, q1, q2, q3, q4, q5, q6, q7, q8, ql]; try rfl) rfl ⟨by rw [HE.out.1, HE.out.2] <;> rfl, ?_⟩
  have hb := HB.out
  (repeat' (first | (with_reducible exact Below.refl _ _) | (with_reducible assumption) | (with_reducible refine Below.setCell ?_ ?_ _) | (with_reducible refine Below.alloc ?_ ?_ _) | (with_reducible refine below_drewN ?_ _) | (with_reducible refine Below.drew ?_) | (with_reducible exact Nat.le_refl _) | omega | (simp; done) | (simp; omega)))


end Go.Proofs.Ytdidmjgilnhncaa
