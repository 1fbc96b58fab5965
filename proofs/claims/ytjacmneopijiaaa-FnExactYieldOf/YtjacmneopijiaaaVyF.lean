/- Proved here: the sum over dice, of the program: one after the other, up to the first code. -/
import Derived.Test.YtjacmneopijiaaaVyM
import Derived.Test.YtjacmneopijiaaaVsW
import Derived.StillTail
namespace Go.Proofs.Ytjacmneopijiaaa
open Go.RowKit
set_option linter.unusedVariables false
set_option linter.unusedSimpArgs false

/-- A die in a list: its defects, and the classes and their table, the same for all. -/
def hdC (cl mp : Value) (s : Sv) : List Value := [.slice s.1 s.2.1 s.2.2, cl, mp]
theorem hdC_len (cl mp : Value) (s : Sv) : (hdC cl mp s).length = 3 := rfl
set_option maxRecDepth 10000 in
set_option maxHeartbeats 25600000 in
theorem impl_from15 {W : World} {B cn cc n c : Nat} {a ca : Option Addr} {ss : List Sv} {L : List (List Dft)} {cs : List Cls} (hn : n ≤ 400) (hL : L.length = n) (hcn : cn ≤ 20) (hcok : ∀ c ∈ cs, Cok c)
    (hs : RG 3 (hdC (.slice ca cn cc) (.map (some (B + 1)))) W (.slice a n c) ss) (hl : ∀ i (h1 : i < ss.length) (h2 : i < L.length), RG 4 vdC W (.slice (ss[i]).1 (ss[i]).2.1 (ss[i]).2.2) L[i] ∧ L[i].length ≤ 60 ∧ ∀ d ∈ L[i], Vok d) (hc : RG 6 vcC W (.slice ca cn cc) cs) (hT : TBL W B cs cs.length) :
    Calls Try.prog 60 #[.slice a n c, .agg #[.int .i64 0, .int .i64 1]] W fun e w' => e = .returned (.agg #[.int .i64 (zq (sumA (whole 0) (L.map (fun l => vsG cs l ⟨0, 1, 1⟩)))).c, .int .i64 (zq (sumA (whole 0) (L.map (fun l => vsG cs l ⟨0, 1, 1⟩)))).n, .int .i64 (zq (sumA (whole 0) (L.map (fun l => vsG cs l ⟨0, 1, 1⟩)))).d]) ∧ Below W.heap.size W w' := by
  have hsl := hs.len
  obtain ⟨ts, hts⟩ : ∃ ts, ts = L.map (fun l => vsG cs l ⟨0, 1, 1⟩) := ⟨_, rfl⟩
  rw [← hts]
  have htl : ts.length = n := by rw [hts]; simp [hL]
  obtain ⟨Q, hQ⟩ : ∃ Q, Q = zq (sumA (whole 0) ts) := ⟨_, rfl⟩
  rw [← hQ]
  have HQ : Hid (Q = zq (sumA (whole 0) ts) ∧ ts.length = n ∧ ∀ i (h1 : i < ts.length) (h2 : i < L.length), ts[i] = vsG cs L[i] ⟨0, 1, 1⟩) := ⟨hQ, htl, fun i h1 h2 => by subst hts; simp⟩
  have H : Hid (RG 3 (hdC (.slice ca cn cc) (.map (some (B + 1)))) W (.slice a n c) ss ∧ n = ss.length ∧ L.length = n) := ⟨hs, hsl, hL⟩
  have HL : Hid (∀ i (h1 : i < ss.length) (h2 : i < L.length), RG 4 vdC W (.slice (ss[i]).1 (ss[i]).2.1 (ss[i]).2.2) L[i] ∧ L[i].length ≤ 60 ∧ ∀ d ∈ L[i], Vok d) := hl
  have HC : Hid (RG 6 vcC W (.slice ca cn cc) cs ∧ TBL W B cs cs.length ∧ ∀ c ∈ cs, Cok c) := ⟨hc, hT, hcok⟩
  clear hs hsl hts htl hQ hl hc hT hcok hL
  obtain ⟨k0, hk0⟩ : ∃ k, k = W.heap.size := ⟨_, rfl⟩
  obtain ⟨V0, hV0⟩ : ∃ V, V = ((W.alloc (.cells #[.int .i64 0, .int .i64 1] 55)).alloc (.cells #[.int .i64 0, .int .i64 0, .int .i64 0] 57)).alloc (.cells #[.int .i64 0, .int .i64 0, .int .i64 1] 57) := ⟨_, rfl⟩
  have HB0 : Hid (Below k0 W V0 ∧ V0.heap.size = k0 + 3 ∧ k0 = W.heap.size) := ⟨by rw [hV0, hk0]; (repeat' (first | (with_reducible exact Below.refl _ _) | (with_reducible assumption) | (with_reducible refine Below.setCell ?_ ?_ _) | (with_reducible refine Below.alloc ?_ ?_ _) | (with_reducible refine below_drewN ?_ _) | (with_reducible refine Below.drew ?_) | (with_reducible exact Nat.le_refl _) | omega | (simp; done) | (simp; omega))), by rw [hV0, hk0]; simp, hk0⟩
  have HQ1 : Hid (V0.heap[k0 + 1]? = some (.cells #[.int .i64 0, .int .i64 0, .int .i64 0] 57)) := by
    unfold Hid; rw [hV0, hk0]
    have h9 := heap_alloc_new (W.alloc (.cells #[.int .i64 0, .int .i64 1] 55)) (.cells #[.int .i64 0, .int .i64 0, .int .i64 0] 57)
    refine (Below.heap_alloc _ _ _ (by simp)).trans ?_
    simpa using h9
  have HQ2 : Hid (V0.heap[k0 + 2]? = some (.cells #[.int .i64 0, .int .i64 0, .int .i64 1] 57)) := by
    unfold Hid; rw [hV0, hk0]
    have h9 := heap_alloc_new ((W.alloc (.cells #[.int .i64 0, .int .i64 1] 55)).alloc (.cells #[.int .i64 0, .int .i64 0, .int .i64 0] 57)) (.cells #[.int .i64 0, .int .i64 0, .int .i64 1] 57)
    simpa using h9
  have HV0 : Hid (V0 = ((W.alloc (.cells #[.int .i64 0, .int .i64 1] 55)).alloc (.cells #[.int .i64 0, .int .i64 0, .int .i64 0] 57)).alloc (.cells #[.int .i64 0, .int .i64 0, .int .i64 1] 57) ∧ k0 = W.heap.size) := ⟨hV0, hk0⟩
  have HKW : Hid (k0 = W.heap.size) := hk0
  clear hV0 hk0
  go_enter Try.func60, Try.ntmps60
  go_wp2
  rw [← HV0.out.1, ← HV0.out.2]
  clear HV0
  obtain ⟨kS, hkS⟩ : ∃ k, k = k0 + 2 := ⟨_, rfl⟩
  obtain ⟨kR, hkR⟩ : ∃ k, k = k0 + 1 := ⟨_, rfl⟩
  have hks2 : k0 + 1 + 1 = kS := by omega
  rw [hks2]
  have HKK : Hid (kS = k0 + 2 ∧ kR = k0 + 1) := ⟨hkS, hkR⟩
  rw [← hkS] at HQ2
  rw [← hkR] at HQ1 ⊢
  clear hkS hkR hks2
  go_loopw [13] (fun i wr => ∃ (j : Nat) (xn xd : Int), j ≤ n ∧ i = .int .i64 j ∧ Hid (psA (whole 0) ts j = ⟨0, xn, xd⟩ ∧ wr.heap[kS]? = some (.cells #[.int .i64 0, .int .i64 xn, .int .i64 xd] 57) ∧ wr.heap[kR]? = some (.cells #[.int .i64 0, .int .i64 0, .int .i64 0] 57) ∧ Below k0 W wr)) (fun i _ => n - (intOf i).toNat)
  case atStart => exact ⟨0, 0, 1, Nat.zero_le _, rfl, rfl, HQ2.out, HQ1.out, HB0.out.1⟩
  case round =>
    clear HQ1 HQ2 HB0
    obtain ⟨j, xn, xd, hj, rfl, hR⟩ := hrel
    obtain ⟨hps, qS, qR, hBr⟩ := hR.out
    have hBW : Below W.heap.size W wr := by rw [← HKW.out]; exact hBr
    by_cases hlt : j < n
    · have hjs : j < ss.length := by rw [← H.out.2.1]; exact hlt
      have hjL : j < L.length := by rw [H.out.2.2]; exact hlt
      have hjt : j < ts.length := by rw [HQ.out.2.1]; exact hlt
      obtain ⟨g, o, c2, he, hg, hjc⟩ := (H.out.1.below hBW).pos (by omega)
      simp only [Value.slice.injEq] at he
      obtain ⟨rfl, hx1, hx2⟩ := he
      clear hx1 hx2
      have hcell := hjc j hjs
      obtain ⟨sa, sn, sc, hsj⟩ : ∃ sa sn sc, ss[j] = (sa, sn, sc) := ⟨_, _, _, rfl⟩
      have hlj := HL.out j hjs hjL
      rw [hsj] at hcell hlj
      have c0 : wr.cell? ⟨g, o + j * 3, none⟩ = some (.slice sa sn sc) := hcell 0 (by omega)
      have c1 : wr.cell? ⟨g, o + j * 3 + 1, none⟩ = some (.slice ca cn cc) := hcell 1 (by omega)
      have c2' : wr.cell? ⟨g, o + j * 3 + 2, none⟩ = some (.map (some (B + 1))) := hcell 2 (by omega)
      obtain ⟨r, hr⟩ : ∃ r, r = ts[j] := ⟨_, rfl⟩
      have HRT : Hid (Tidy r) := by unfold Hid; rw [hr, HQ.out.2.2 j hjt hjL]; exact vsG_tidy _ (fun h => absurd rfl h)
      have HST : Hid (psA (whole 0) ts (j + 1) = adA ⟨0, xn, xd⟩ r ∧ (∀ q, (psA (whole 0) ts (j + 1)) = q → q.c ≠ 0 → sumA (whole 0) ts = q)) := by
        refine ⟨by rw [psA_succ _ _ _ hjt, hps, hr], fun q hq hc => ?_⟩
        rw [sumA_stop (k := j + 1) (by omega) (by rw [hq]; exact hc), hq]
      obtain ⟨V, hV⟩ : ∃ V, V = wr.alloc (.cells #[.slice sa sn sc, .slice ca cn cc, .map (some (B + 1))] 87) := ⟨_, rfl⟩
      have bV : Below wr.heap.size wr V := by rw [hV]; (repeat' (first | (with_reducible exact Below.refl _ _) | (with_reducible assumption) | (with_reducible refine Below.setCell ?_ ?_ _) | (with_reducible refine Below.alloc ?_ ?_ _) | (with_reducible refine below_drewN ?_ _) | (with_reducible refine Below.drew ?_) | (with_reducible exact Nat.le_refl _) | omega | (simp; done) | (simp; omega)))
      have bWV : Below W.heap.size W V := hBW.trans (bV.mono hBW.size)
      have HWO : Hid (Calls Try.prog 52 #[.agg #[.slice sa sn sc, .slice ca cn cc, .map (some (B + 1))]] V fun e w' => e = .returned (.agg #[.int .i64 r.c, .int .i64 r.n, .int .i64 r.d]) ∧ Below V.heap.size V w') := by
        rw [hr, HQ.out.2.2 j hjt hjL]
        exact impl_worth hlj.2.1 hlj.2.2 hcn HC.out.2.2 (hlj.1.below bWV) (HC.out.1.below bWV) (HC.out.2.1.below bWV)
      have HSV : Hid (V.heap[kS]? = some (.cells #[.int .i64 0, .int .i64 xn, .int .i64 xd] 57) ∧ V.heap[kR]? = some (.cells #[.int .i64 0, .int .i64 0, .int .i64 0] 57) ∧ Below k0 W V) := ⟨(bV.block _ (ltOf qS)).trans qS, (bV.block _ (ltOf qR)).trans qR, by rw [HKW.out]; exact bWV⟩
      have HV : Hid (V = wr.alloc (.cells #[.slice sa sn sc, .slice ca cn cc, .map (some (B + 1))] 87)) := hV
      clear hcell hsj hlj hr hps hR qS qR hBr hBW hV bV bWV hjc
      have b0 : (0 : Int) ≤ (j : Int) := by omega
      have b1 : (j : Int) < (n : Int) := by omega
      go_wp2_with (fail)
      rw [← HV.out]
      clear HV c0 c1 c2' hg
      refine HWO.out.mono ?_
      rintro e w2 ⟨rfl, hb2⟩
      obtain ⟨rc, rn, rd⟩ := r
      obtain ⟨V2, hV2⟩ : ∃ V, V = w2.alloc (.cells #[.int .i64 rc, .int .i64 rn, .int .i64 rd] 57) := ⟨_, rfl⟩
      obtain ⟨kv, hkv⟩ : ∃ k, k = w2.heap.size := ⟨_, rfl⟩
      have b22 : Below w2.heap.size w2 V2 := by rw [hV2]; (repeat' (first | (with_reducible exact Below.refl _ _) | (with_reducible assumption) | (with_reducible refine Below.setCell ?_ ?_ _) | (with_reducible refine Below.alloc ?_ ?_ _) | (with_reducible refine below_drewN ?_ _) | (with_reducible refine Below.drew ?_) | (with_reducible exact Nat.le_refl _) | omega | (simp; done) | (simp; omega)))
      have bV2 : Below V.heap.size V V2 := hb2.trans (b22.mono hb2.size)
      have HS2 : Hid (V2.heap[kS]? = some (.cells #[.int .i64 0, .int .i64 xn, .int .i64 xd] 57) ∧ V2.heap[kR]? = some (.cells #[.int .i64 0, .int .i64 0, .int .i64 0] 57) ∧ Below k0 W V2 ∧ V2.heap[kv]? = some (.cells #[.int .i64 rc, .int .i64 rn, .int .i64 rd] 57)) :=
        ⟨(bV2.block _ (ltOf HSV.out.1)).trans HSV.out.1, (bV2.block _ (ltOf HSV.out.2.1)).trans HSV.out.2.1, HSV.out.2.2.trans (bV2.mono (by have := ltOf HSV.out.2.1; have := HKK.out; omega)), by rw [hV2, hkv]; exact heap_alloc_new w2 _⟩
      have HV2 : Hid (V2 = w2.alloc (.cells #[.int .i64 rc, .int .i64 rn, .int .i64 rd] 57) ∧ kv = w2.heap.size) := ⟨hV2, hkv⟩
      clear hV2 hkv b22 bV2 hb2 HSV HWO
      go_upto_region 6 with fail
      rw [← HV2.out.1, ← HV2.out.2]
      clear HV2
      have v0 : V2.cell? ⟨kv, 0, none⟩ = some (.int .i64 rc) := cellOf HS2.out.2.2.2 0 rfl
      have v1 : V2.cell? ⟨kv, 1, none⟩ = some (.int .i64 rn) := cellOf HS2.out.2.2.2 1 rfl
      have v2 : V2.cell? ⟨kv, 2, none⟩ = some (.int .i64 rd) := cellOf HS2.out.2.2.2 2 rfl
      have vl := ltOf HS2.out.2.2.2
      by_cases hrc : rc = 0
      case neg =>
        have hrc2 : (rc != 0) = true := by simp [hrc]
        have HE : Hid (Q = ⟨rc, rn, rd⟩) := by
          have hz := HRT.out hrc
          simp only at hz
          obtain ⟨rfl, rfl⟩ := hz
          unfold Hid
          rw [HQ.out.1, HST.out.2 _ rfl (by rw [HST.out.1, adA_bad rfl hrc]; exact hrc), HST.out.1, zq_not (by rw [adA_bad rfl hrc]; exact hrc), adA_bad rfl hrc]
        have q1 := HS2.out.2.1
        have z0 : V2.cell? ⟨kR, 0, none⟩ = some (.int .i64 0) := cellOf q1 0 rfl
        have z1 : V2.cell? ⟨kR, 1, none⟩ = some (.int .i64 0) := cellOf q1 1 rfl
        have z2 : V2.cell? ⟨kR, 2, none⟩ = some (.int .i64 0) := cellOf q1 2 rfl
        have zf0 := frozOf q1 0
        have zf1 := frozOf q1 1
        have zf2 := frozOf q1 2
        have zl := ltOf q1
        obtain ⟨e1, e2, e3, e4, e5, e6⟩ := set3e (a' := .int .i64 rc) (b' := .int .i64 rn) (c' := .int .i64 rd) q1
        clear q1 hrc
        go_wp2
        refine bodyPost_ret (by simp [results, Try.results60, go_sem, e1, e2, e3, e4, e5, e6, zl]; try rfl) rfl ?_
        refine ⟨by rw [HE.out], ?_⟩
        rw [← HKW.out]
        exact set3b HS2.out.2.2.1 (by have := HKK.out; omega)
      subst hrc
      obtain ⟨M, hM⟩ : ∃ M, M = adQ ⟨xn, xd⟩ ⟨rn, rd⟩ := ⟨_, rfl⟩
      have HMP : Hid (psA (whole 0) ts (j + 1) = M ∧ Tidy M) := ⟨by rw [HST.out.1, adA_ok rfl rfl, hM]; rfl, by rw [hM]; exact adQ_tidy _ _⟩
      have HMC : Hid (∀ X, Calls Try.prog 76 #[.agg #[.int .i64 xn, .int .i64 xd], .agg #[.int .i64 rn, .int .i64 rd]] X fun e w' => e = .returned (.agg #[.int .i64 M.c, .int .i64 M.n, .int .i64 M.d]) ∧ Below X.heap.size X w') := fun X => by
        rw [hM]; exact impl_adQ ⟨xn, xd⟩ ⟨rn, rd⟩ X
      have t1 : V2.cell? ⟨kS, 1, none⟩ = some (.int .i64 xn) := cellOf HS2.out.1 1 rfl
      have t2 : V2.cell? ⟨kS, 2, none⟩ = some (.int .i64 xd) := cellOf HS2.out.1 2 rfl
      have tl := ltOf HS2.out.1
      clear hM
      go_wp2_with (fail)
      refine (HMC.out _).mono ?_
      rintro e w8 ⟨rfl, hb8⟩
      have hq8 := (hb8.block _ (ltOf HS2.out.1)).trans HS2.out.1
      have HQ8 : Hid (w8.heap[kR]? = some (.cells #[.int .i64 0, .int .i64 0, .int .i64 0] 57) ∧ Below k0 W w8) := ⟨(hb8.block _ (ltOf HS2.out.2.1)).trans HS2.out.2.1, HS2.out.2.2.1.trans (hb8.mono (by have := ltOf HS2.out.2.1; have := HKK.out; omega))⟩
      obtain ⟨Mc, Mn, Md⟩ := M
      have u0 : w8.cell? ⟨kS, 0, none⟩ = some (.int .i64 0) := cellOf hq8 0 rfl
      have u1 : w8.cell? ⟨kS, 1, none⟩ = some (.int .i64 xn) := cellOf hq8 1 rfl
      have u2 : w8.cell? ⟨kS, 2, none⟩ = some (.int .i64 xd) := cellOf hq8 2 rfl
      have uf0 := frozOf hq8 0
      have uf1 := frozOf hq8 1
      have uf2 := frozOf hq8 2
      have ul := ltOf hq8
      obtain ⟨W9, hW9⟩ : ∃ X, X = (((w8.setCell ⟨kS, 0, none⟩ (.int .i64 Mc)).setCell ⟨kS, 1, none⟩ (.int .i64 Mn)).setCell ⟨kS, 2, none⟩ (.int .i64 Md)) := ⟨_, rfl⟩
      have hkk := HKK.out
      have HQ9 : Hid (W9.heap[kS]? = some (.cells #[.int .i64 Mc, .int .i64 Mn, .int .i64 Md] 57) ∧ W9.heap[kR]? = some (.cells #[.int .i64 0, .int .i64 0, .int .i64 0] 57) ∧ Below k0 W W9) := by
        rw [hW9]
        exact ⟨vset3 hq8, (vset3_other (by omega)).trans HQ8.out.1, set3b HQ8.out.2 (by omega)⟩
      have HW9 : Hid (W9 = (((w8.setCell ⟨kS, 0, none⟩ (.int .i64 Mc)).setCell ⟨kS, 1, none⟩ (.int .i64 Mn)).setCell ⟨kS, 2, none⟩ (.int .i64 Md))) := hW9
      clear hW9 hb8 hq8 HQ8 v0 v1 v2 vl t1 t2 tl HMC hkk HS2
      go_upto_region 9 with fail
      rw [← HW9.out]
      clear HW9 u0 u1 u2 uf0 uf1 uf2 ul
      have y0' : W9.cell? ⟨kS, 0, none⟩ = some (.int .i64 Mc) := cellOf HQ9.out.1 0 rfl
      have y1' : W9.cell? ⟨kS, 1, none⟩ = some (.int .i64 Mn) := cellOf HQ9.out.1 1 rfl
      have y2' : W9.cell? ⟨kS, 2, none⟩ = some (.int .i64 Md) := cellOf HQ9.out.1 2 rfl
      have yl := ltOf HQ9.out.1
      by_cases hm0 : Mc = 0
      · subst hm0
        go_wp2
        go_roundw
        case rel => exact ⟨j + 1, Mn, Md, by omega, by go_num, HMP.out.1, HQ9.out⟩
        case measure => simp [intOf]; omega
      · have hm1 : (Mc != 0) = true := by simp [hm0]
        have HE : Hid (Q = ⟨Mc, Mn, Md⟩) := by
          have hz := HMP.out.2 hm0
          simp only at hz
          obtain ⟨rfl, rfl⟩ := hz
          unfold Hid
          rw [HQ.out.1, HST.out.2 _ HMP.out.1 hm0, zq_not hm0]
        have q1 := HQ9.out.2.1
        have z0 : W9.cell? ⟨kR, 0, none⟩ = some (.int .i64 0) := cellOf q1 0 rfl
        have z1 : W9.cell? ⟨kR, 1, none⟩ = some (.int .i64 0) := cellOf q1 1 rfl
        have z2 : W9.cell? ⟨kR, 2, none⟩ = some (.int .i64 0) := cellOf q1 2 rfl
        have zf0 := frozOf q1 0
        have zf1 := frozOf q1 1
        have zf2 := frozOf q1 2
        have zl := ltOf q1
        obtain ⟨e1, e2, e3, e4, e5, e6⟩ := set3e (a' := .int .i64 Mc) (b' := .int .i64 Mn) (c' := .int .i64 Md) q1
        clear q1 hm0
        go_wp2
        refine bodyPost_ret (by simp [results, Try.results60, go_sem, e1, e2, e3, e4, e5, e6, zl]; try rfl) rfl ?_
        refine ⟨by rw [HE.out], ?_⟩
        rw [← HKW.out]
        exact set3b HQ9.out.2.2 (by have := HKK.out; omega)
    · obtain rfl : j = n := by omega
      have HE : Hid (Q = ⟨0, xn, xd⟩) := by
        unfold Hid
        have h9 := psA_all (whole 0) ts
        rw [HQ.out.2.1, hps] at h9
        rw [HQ.out.1, ← h9, zq_ok rfl]
      have t0 : wr.cell? ⟨kS, 0, none⟩ = some (.int .i64 0) := cellOf qS 0 rfl
      have t1 : wr.cell? ⟨kS, 1, none⟩ = some (.int .i64 xn) := cellOf qS 1 rfl
      have t2 : wr.cell? ⟨kS, 2, none⟩ = some (.int .i64 xd) := cellOf qS 2 rfl
      have tl := ltOf qS
      have z0 : wr.cell? ⟨kR, 0, none⟩ = some (.int .i64 0) := cellOf qR 0 rfl
      have z1 : wr.cell? ⟨kR, 1, none⟩ = some (.int .i64 0) := cellOf qR 1 rfl
      have z2 : wr.cell? ⟨kR, 2, none⟩ = some (.int .i64 0) := cellOf qR 2 rfl
      have zf0 := frozOf qR 0
      have zf1 := frozOf qR 1
      have zf2 := frozOf qR 2
      have zl := ltOf qR
      obtain ⟨e1, e2, e3, e4, e5, e6⟩ := set3e (a' := .int .i64 0) (b' := .int .i64 xn) (c' := .int .i64 xd) qR
      have HBZ : Hid (Below k0 W wr) := hBr
      clear qR qS hR hBW hBr hps hlt
      go_wp2
      refine bodyPost_ret (by simp [results, Try.results60, go_sem, e1, e2, e3, e4, e5, e6, zl]; try rfl) rfl ?_
      refine ⟨by rw [HE.out], ?_⟩
      rw [← HKW.out]
      exact set3b HBZ.out (by have := HKK.out; omega)

end Go.Proofs.Ytjacmneopijiaaa
