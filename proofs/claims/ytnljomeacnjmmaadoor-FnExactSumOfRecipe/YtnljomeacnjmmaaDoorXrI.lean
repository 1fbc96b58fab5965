/- Proved here: the code of a recipe, of the program. -/
import Derived.Test.YtnljomeacnjmmaaDoorXsfI
namespace Go.Proofs.YtnljomeacnjmmaaDoor
open Go.ChangeShapes Go.WideShapes Go.ChangeAt Go.RowKit Go.Joins
set_option linter.unusedVariables false
set_option linter.unusedSimpArgs false


set_option maxRecDepth 10000 in
set_option maxHeartbeats 6400000 in
theorem impl_rf (r : Rr) (c : Rp) (W : World) (ht : Hid (Tab W)) (hs : smRp 1048576 c) (h : Rr1 W r c) :
    Calls Tryd.prog 16 #[.agg #[.string r.nm, .slice r.pa r.pn r.pc, .slice r.sa r.sn r.sc]] W fun e w' => e = .returned (.int .i64 (rfK c)) ∧ Below W.heap.size W w' := by
  obtain ⟨rs, hrg, hrel⟩ := h.ss
  obtain ⟨K, hK⟩ : ∃ K, K = rfK c := ⟨_, rfl⟩
  obtain ⟨M, hM⟩ : ∃ M, M = nameK r.nm := ⟨_, rfl⟩
  obtain ⟨P, hP⟩ : ∃ P, P = fnz (fun i => prmK (c.ps.take i) (c.ps.getD i pmD)) c.ps.length := ⟨_, rfl⟩
  obtain ⟨Q, hQ⟩ : ∃ Q, Q = fnz (fun i => stpK c.ps (c.ss.take i) (c.ss.getD i spD)) c.ss.length := ⟨_, rfl⟩
  have h1 := hs.nm
  have h2 := hs.pn
  have h3 := hs.sn
  have hpl : r.pn = c.ps.length := h.ps.len
  have hsl : r.sn = c.ss.length := h.ss.len
  have hsr : r.sn = rs.length := hrg.len
  have HKK : Hid (K = if M = 0 then (if 20 < r.pn then 2 else if 40 < r.sn then 2 else if P = 0 then Q else P) else M) := by
    unfold Hid; rw [hK, rfK_eq, hM, hP, hQ, h.nm, hpl, hsl]
  have HM : Hid (∀ X, Calls Tryd.prog 30 #[.string r.nm] X fun e w' => e = .returned (.int .i64 M) ∧ w' = X) := fun X => by rw [hM]; exact impl_name r.nm X (by rw [h.nm]; omega)
  have HP : Hid (∀ (i : Nat) (hi : i < c.ps.length), ∀ X, Below W.heap.size W X → Calls Tryd.prog 31 #[.agg #[.string c.ps[i].nm, .int .i64 c.ps[i].lo, .int .i64 c.ps[i].hi, .int .i64 c.ps[i].ba], .slice r.pa i r.pc] X fun e w' => e = .returned (.int .i64 (prmK (c.ps.take i) c.ps[i])) ∧ Below X.heap.size X w') := fun i hi X hb => impl_prm c.ps[i] (c.ps.take i) (by omega) (hs.ps i hi) (take_rg (h.ps.below hb) (by omega))
  have HT : Hid (∀ (i : Nat) (hi : i < c.ss.length) (hi' : i < rs.length), ∀ X, Below W.heap.size W X → Calls Tryd.prog 32 #[.agg #[.string rs[i].nm, .int .i64 rs[i].t.k, .int .i64 rs[i].t.n, .string rs[i].t.s, .slice rs[i].sa rs[i].sn rs[i].sc], .slice r.sa i r.sc, .slice r.pa r.pn r.pc] X fun e w' => e = .returned (.int .i64 (stpK c.ps (c.ss.take i) c.ss[i])) ∧ Below X.heap.size X w') := fun i hi hi' X hb => impl_stp rs[i] c.ss[i] (rs.take i) (c.ss.take i) c.ps (ht.out.step hb) (by omega) (by omega) (hs.ss i hi) ((hrel.below hb).at_ i hi' hi) (h.ps.below hb) (take_rg (hrg.below hb) (by omega)) (tnm_take hrel i)
  have HS : Hid (RG 4 pmC W (.slice r.pa r.pn r.pc) c.ps ∧ RG 5 rsC W (.slice r.sa r.sn r.sc) rs ∧ r.pn = c.ps.length ∧ r.sn = c.ss.length ∧ r.sn = rs.length) := ⟨h.ps, hrg, hpl, hsl, hsr⟩
  have HPQ : Hid (P = fnz (fun i => prmK (c.ps.take i) (c.ps.getD i pmD)) c.ps.length ∧ Q = fnz (fun i => stpK c.ps (c.ss.take i) (c.ss.getD i spD)) c.ss.length) := ⟨hP, hQ⟩
  have hcp1 := h.cp.1
  have hcp2 := h.cp.2
  have hpn : r.pn ≤ 1048576 := by omega
  have hsn : r.sn ≤ 1048576 := by omega
  rw [← hK]
  have HB0 : Hid (Below W.heap.size W (W.alloc (.cells #[.string r.nm, .slice r.pa r.pn r.pc, .slice r.sa r.sn r.sc] 33))) := by unfold Hid; (repeat' (first | (with_reducible exact Below.refl _ _) | (with_reducible assumption) | (with_reducible refine Below.setCell ?_ ?_ _) | (with_reducible refine Below.alloc ?_ ?_ _) | (with_reducible refine below_drewN ?_ _) | (with_reducible refine Below.drew ?_) | (with_reducible exact Nat.le_refl _) | omega | (simp; done) | (simp; omega)))
  have HK0 : Hid ((W.alloc (.cells #[.string r.nm, .slice r.pa r.pn r.pc, .slice r.sa r.sn r.sc] 33)).heap[W.heap.size]? = some (.cells #[.string r.nm, .slice r.pa r.pn r.pc, .slice r.sa r.sn r.sc] 33)) := heap_alloc_new _ _
  clear hK hM hP hQ h1 h2 h3 hpl hsl hsr h hs hrg hrel ht
  go_enter Tryd.func16, Tryd.ntmps16
  go_wp2_with (fail)
  refine (HM.out _).mono ?_
  rintro e w1 ⟨rfl, rfl⟩
  clear HM
  by_cases hm : M = 0
  case neg =>
    have hKK := HKK.out
    rw [if_neg hm] at hKK
    clear HKK
    subst hKK
    go_wp2
    go_returns
    exact ⟨rfl, HB0.out⟩
  have HK2 : Hid (K = if 20 < r.pn then 2 else if 40 < r.sn then 2 else if P = 0 then Q else P) := by
    have hKK := HKK.out
    rw [if_pos hm] at hKK
    exact hKK
  clear HKK
  subst hm
  by_cases h20 : 20 < r.pn
  · have hKK := HK2.out
    rw [if_pos h20] at hKK
    clear HK2
    subst hKK
    go_wp2
    go_returns
    exact ⟨rfl, HB0.out⟩
  by_cases h40 : 40 < r.sn
  · have hKK := HK2.out
    rw [if_neg h20, if_pos h40] at hKK
    clear HK2
    subst hKK
    go_wp2
    go_returns
    exact ⟨rfl, HB0.out⟩
  have HK3 : Hid (K = if P = 0 then Q else P) := by
    have hKK := HK2.out
    rw [if_neg h20, if_neg h40] at hKK
    exact hKK
  clear HK2
  go_wp2
  go_loopw [29] (fun i wr => ∃ t : Nat, t ≤ r.pn ∧ i = .int .i64 t ∧ Hid (Below W.heap.size W wr ∧ wr.heap[W.heap.size]? = some (.cells #[.string r.nm, .slice r.pa r.pn r.pc, .slice r.sa r.sn r.sc] 33) ∧ ∀ i, i < t → prmK (c.ps.take i) (c.ps.getD i pmD) = 0)) (fun i _ => r.pn - (intOf i).toNat)
  case atStart => exact ⟨0, Nat.zero_le _, rfl, HB0.out, HK0.out, fun i hi => by omega⟩
  case round =>
    clear HB0 HK0
    obtain ⟨t, ht, rfl, hR⟩ := hrel
    by_cases hlt : t < r.pn
    · have htl : t < c.ps.length := by rw [← HS.out.2.2.1]; exact hlt
      obtain ⟨g, o, c2, he, hg, hj⟩ := (HS.out.1.below hR.out.1).pos (by omega)
      simp only [Value.slice.injEq] at he
      obtain ⟨hx0, hx1, hx2⟩ := he
      clear hx1 hx2
      obtain ⟨c0, c1, c2, c3⟩ := pmC_at (hj t htl)
      obtain ⟨y, hy⟩ : ∃ y, y = c.ps[t] := ⟨_, rfl⟩
      rw [← hy] at c0 c1 c2 c3
      obtain ⟨q, hq⟩ : ∃ q, q = prmK (c.ps.take t) c.ps[t] := ⟨_, rfl⟩
      have HQ : Hid ((¬ q = 0 → K = q) ∧ (q = 0 → ∀ i, i < t + 1 → prmK (c.ps.take i) (c.ps.getD i pmD) = 0)) := by
        refine ⟨fun e => ?_, fun e i hi => ?_⟩
        · have hPq : P = q := by
            rw [HPQ.out.1, fnz_stop htl hR.out.2.2 (by rw [getD_at htl, ← hq]; exact e), getD_at htl, ← hq]
          rw [HK3.out, hPq, if_neg e]
        · rcases (by omega : i < t ∨ i = t) with h | rfl
          · exact hR.out.2.2 i h
          · rw [getD_at htl, ← hq]; exact e
      obtain ⟨V, hV⟩ : ∃ V, V = wr.alloc (.cells #[.string y.nm, .int .i64 y.lo, .int .i64 y.hi, .int .i64 y.ba] 56) := ⟨_, rfl⟩
      have hVB : Below W.heap.size W V := by rw [hV]; exact hR.out.1.alloc hR.out.1.size _
      have hVX : V.heap[W.heap.size]? = some (.cells #[.string r.nm, .slice r.pa r.pn r.pc, .slice r.sa r.sn r.sc] 33) := by rw [hV]; exact (Below.heap_alloc _ _ _ (ltQ hR.out.2.1)).trans hR.out.2.1
      have hVY : V.heap[wr.heap.size]? = some (.cells #[.string y.nm, .int .i64 y.lo, .int .i64 y.hi, .int .i64 y.ba] 56) := by rw [hV]; exact heap_alloc_new _ _
      have hcall : Hid (∀ X : Und V.heap.size V, Calls Tryd.prog 31 #[.agg #[.string y.nm, .int .i64 y.lo, .int .i64 y.hi, .int .i64 y.ba], .slice (some ⟨g, o, none⟩) t r.pc] X.W fun e w' => e = .returned (.int .i64 q) ∧ Below X.W.heap.size X.W w') := fun X => by
        have := HP.out t htl X.W (hVB.trans (X.below.mono hVB.size))
        rw [← hy, hx0] at this
        rw [hq, ← hy]; exact this
      have HV : Hid (V = wr.alloc (.cells #[.string y.nm, .int .i64 y.lo, .int .i64 y.hi, .int .i64 y.ba] 56)) := hV
      have HVB : Hid (Below W.heap.size W V ∧ V.heap[W.heap.size]? = some (.cells #[.string r.nm, .slice r.pa r.pn r.pc, .slice r.sa r.sn r.sc] 33)) := ⟨hVB, hVX⟩
      obtain ⟨v0, v1, v2, v3, vf, vl⟩ := quad_at hVY
      obtain ⟨r0, r1, r2, rf, rl⟩ := three_at hVX
      rw [hx0] at r1
      clear hj hy hq hV hVB hVX hVY vf rf HP hR
      have b0 : (0 : Int) ≤ (t : Int) := by omega
      have b1 : (t : Int) < (r.pn : Int) := by omega
      have hsa : r.pa = some ⟨g, o, none⟩ := hx0
      clear hx0
      go_wp2_with (fail)
      rw [← HV.out]
      (refine wp_region_und (by kernel_rfl) (by kernel_rfl) (fun hund => ?_); (repeat (go_big_quiet_step (first | (go_at_call 31; with_reducible refine und_call ?_ (hcall.out _); exact Nat.le_refl _)))); with_reducible refine wpQuiet_nil ?_; clear hund; intro W1 hb1; obtain ⟨hc1, hf1⟩ := undcell hb1)
      have HB : Hid (Below W.heap.size W W1 ∧ W1.heap[W.heap.size]? = some (.cells #[.string r.nm, .slice r.pa r.pn r.pc, .slice r.sa r.sn r.sc] 33)) := ⟨HVB.out.1.trans (hb1.mono HVB.out.1.size), (hb1.block _ (ltQ HVB.out.2)).trans HVB.out.2⟩
      clear hb1 hc1 hf1 hcall HV HVB v0 v1 v2 v3 vl r0 r1 r2 rl c0 c1 c2 c3
      by_cases hq0 : q = 0
      · have HG : Hid (∀ i, i < t + 1 → prmK (c.ps.take i) (c.ps.getD i pmD) = 0) := HQ.out.2 hq0
        clear HQ
        subst hq0
        go_wp2
        go_roundw
        case rel => exact ⟨t + 1, by omega, by go_num, HB.out.1, HB.out.2, HG.out⟩
        case measure => simp [intOf]; omega
      · have hKq := HQ.out.1 hq0
        clear HQ
        subst hKq
        go_wp2
        go_returns
        exact ⟨rfl, HB.out.1⟩
    · have HK4 : Hid (K = Q) := by
        have hP0 : P = 0 := by
          rw [HPQ.out.1]
          exact fnz_zero (fun i hi => hR.out.2.2 i (by have := HS.out.2.2.1; omega))
        unfold Hid; rw [HK3.out, if_pos hP0]
      have HB : Hid (Below W.heap.size W wr ∧ wr.heap[W.heap.size]? = some (.cells #[.string r.nm, .slice r.pa r.pn r.pc, .slice r.sa r.sn r.sc] 33)) := ⟨hR.out.1, hR.out.2.1⟩
      obtain ⟨r0, r1, r2, rf, rl⟩ := three_at hR.out.2.1
      clear hR rf HP HK3
      go_wp2
      clear r0 r1 r2 rl
      go_loopw [47] (fun i wr => ∃ t : Nat, t ≤ r.sn ∧ i = .int .i64 t ∧ Hid (Below W.heap.size W wr ∧ wr.heap[W.heap.size]? = some (.cells #[.string r.nm, .slice r.pa r.pn r.pc, .slice r.sa r.sn r.sc] 33) ∧ ∀ i, i < t → stpK c.ps (c.ss.take i) (c.ss.getD i spD) = 0)) (fun i _ => r.sn - (intOf i).toNat)
      case atStart => exact ⟨0, Nat.zero_le _, rfl, HB.out.1, HB.out.2, fun i hi => by omega⟩
      case round =>
        clear HB
        obtain ⟨t, ht, rfl, hR⟩ := hrel
        by_cases hlt : t < r.sn
        · have htl : t < c.ss.length := by rw [← HS.out.2.2.2.1]; exact hlt
          have htr : t < rs.length := by rw [← HS.out.2.2.2.2]; exact hlt
          obtain ⟨g, o, c2, he, hg, hj⟩ := (HS.out.2.1.below hR.out.1).pos (by omega)
          simp only [Value.slice.injEq] at he
          obtain ⟨hx0, hx1, hx2⟩ := he
          clear hx1 hx2
          obtain ⟨c0, c1, c2, c3, c4⟩ := rsC_at (hj t htr)
          obtain ⟨y, hy⟩ : ∃ y, y = rs[t] := ⟨_, rfl⟩
          rw [← hy] at c0 c1 c2 c3 c4
          obtain ⟨q, hq⟩ : ∃ q, q = stpK c.ps (c.ss.take t) c.ss[t] := ⟨_, rfl⟩
          have HQ : Hid ((¬ q = 0 → K = q) ∧ (q = 0 → ∀ i, i < t + 1 → stpK c.ps (c.ss.take i) (c.ss.getD i spD) = 0)) := by
            refine ⟨fun e => ?_, fun e i hi => ?_⟩
            · rw [HK4.out, HPQ.out.2, fnz_stop htl hR.out.2.2 (by rw [getD_at htl, ← hq]; exact e), getD_at htl, ← hq]
            · rcases (by omega : i < t ∨ i = t) with h | rfl
              · exact hR.out.2.2 i h
              · rw [getD_at htl, ← hq]; exact e
          obtain ⟨V, hV⟩ : ∃ V, V = wr.alloc (.cells #[.string y.nm, .int .i64 y.t.k, .int .i64 y.t.n, .string y.t.s, .slice y.sa y.sn y.sc] 64) := ⟨_, rfl⟩
          have hVB : Below W.heap.size W V := by rw [hV]; exact hR.out.1.alloc hR.out.1.size _
          have hVX : V.heap[W.heap.size]? = some (.cells #[.string r.nm, .slice r.pa r.pn r.pc, .slice r.sa r.sn r.sc] 33) := by rw [hV]; exact (Below.heap_alloc _ _ _ (ltQ hR.out.2.1)).trans hR.out.2.1
          have hVY : V.heap[wr.heap.size]? = some (.cells #[.string y.nm, .int .i64 y.t.k, .int .i64 y.t.n, .string y.t.s, .slice y.sa y.sn y.sc] 64) := by rw [hV]; exact heap_alloc_new _ _
          have hcall : Hid (∀ X : Und V.heap.size V, Calls Tryd.prog 32 #[.agg #[.string y.nm, .int .i64 y.t.k, .int .i64 y.t.n, .string y.t.s, .slice y.sa y.sn y.sc], .slice (some ⟨g, o, none⟩) t r.sc, .slice r.pa r.pn r.pc] X.W fun e w' => e = .returned (.int .i64 q) ∧ Below X.W.heap.size X.W w') := fun X => by
            have := HT.out t htl htr X.W (hVB.trans (X.below.mono hVB.size))
            rw [← hy, hx0] at this
            rw [hq]; exact this
          have HV : Hid (V = wr.alloc (.cells #[.string y.nm, .int .i64 y.t.k, .int .i64 y.t.n, .string y.t.s, .slice y.sa y.sn y.sc] 64)) := hV
          have HVB : Hid (Below W.heap.size W V ∧ V.heap[W.heap.size]? = some (.cells #[.string r.nm, .slice r.pa r.pn r.pc, .slice r.sa r.sn r.sc] 33)) := ⟨hVB, hVX⟩
          obtain ⟨v0, v1, v2, v3, v4, vf, vl⟩ := five_at hVY
          obtain ⟨r0, r1, r2, rf, rl⟩ := three_at hVX
          rw [hx0] at r2
          clear hj hy hq hV hVB hVX hVY vf rf HT hR
          have b0 : (0 : Int) ≤ (t : Int) := by omega
          have b1 : (t : Int) < (r.sn : Int) := by omega
          have hsa : r.sa = some ⟨g, o, none⟩ := hx0
          clear hx0
          go_wp2_with (fail)
          rw [← HV.out]
          (refine wp_region_und (by kernel_rfl) (by kernel_rfl) (fun hund => ?_); (repeat (go_big_quiet_step (first | (go_at_call 32; with_reducible refine und_call ?_ (hcall.out _); exact Nat.le_refl _)))); with_reducible refine wpQuiet_nil ?_; clear hund; intro W1 hb1; obtain ⟨hc1, hf1⟩ := undcell hb1)
          have HB : Hid (Below W.heap.size W W1 ∧ W1.heap[W.heap.size]? = some (.cells #[.string r.nm, .slice r.pa r.pn r.pc, .slice r.sa r.sn r.sc] 33)) := ⟨HVB.out.1.trans (hb1.mono HVB.out.1.size), (hb1.block _ (ltQ HVB.out.2)).trans HVB.out.2⟩
          clear hb1 hc1 hf1 hcall HV HVB v0 v1 v2 v3 v4 vl r0 r1 r2 rl c0 c1 c2 c3 c4
          by_cases hq0 : q = 0
          · have HG : Hid (∀ i, i < t + 1 → stpK c.ps (c.ss.take i) (c.ss.getD i spD) = 0) := HQ.out.2 hq0
            clear HQ
            subst hq0
            go_wp2
            go_roundw
            case rel => exact ⟨t + 1, by omega, by go_num, HB.out.1, HB.out.2, HG.out⟩
            case measure => simp [intOf]; omega
          · have hKq := HQ.out.1 hq0
            clear HQ
            subst hKq
            go_wp2
            go_returns
            exact ⟨rfl, HB.out.1⟩
        · have hk0 : K = 0 := by
            rw [HK4.out, HPQ.out.2]
            exact fnz_zero (fun i hi => hR.out.2.2 i (by have := HS.out.2.2.2.1; omega))
          have HB : Hid (Below W.heap.size W _) := hR.out.1
          clear hR
          clear HK4 HPQ
          subst hk0
          go_wp2
          go_returns
          exact ⟨rfl, HB.out⟩

end Go.Proofs.YtnljomeacnjmmaaDoor
