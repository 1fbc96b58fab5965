/- Proved here: the code of a recipe, of the model. -/
import Derived.Test.YtnljomeacnjmmaaDoorXsfS
namespace Go.Proofs.YtnljomeacnjmmaaDoor
open Go.ChangeShapes Go.WideShapes Go.ChangeAt Go.RowKit Go.Joins
set_option linter.unusedVariables false
set_option linter.unusedSimpArgs false


set_option maxHeartbeats 400000 in
theorem spec_ins (n a b : Int) (w : World) : Calls Tryd.prog 24 #[.int .i64 n, .int .i64 a, .int .i64 b] w fun e w' => e = .returned (.bool (insB n a b)) ∧ w' = w := by
  go_enter Tryd.func24, Tryd.ntmps24
  by_cases h : a ≤ n
  · go_wp2
    go_returns
    exact ⟨by simp [insB, h], rfl⟩
  · go_wp2
    go_returns
    exact ⟨by simp [insB]; omega, rfl⟩

set_option maxRecDepth 10000 in
set_option maxHeartbeats 12800000 in
theorem spec_rf (r : Rr) (c : Rp) (W : World) (hs : smRp 1048576 c) (h : Rr1 W r c) :
    Calls Tryd.prog 12 #[.agg #[.string r.nm, .slice r.pa r.pn r.pc, .slice r.sa r.sn r.sc]] W fun e w' => e = .returned (.int .i64 (rfK c)) ∧ Below W.heap.size W w' := by
  obtain ⟨rs, hrg, hrel⟩ := h.ss
  obtain ⟨K, hK⟩ : ∃ K, K = rfK c := ⟨_, rfl⟩
  obtain ⟨M, hM⟩ : ∃ M, M = nameK r.nm := ⟨_, rfl⟩
  obtain ⟨P, hP⟩ : ∃ P, P = fnz (fun i => prmK (c.ps.take i) (c.ps.getD i pmD)) c.ps.length := ⟨_, rfl⟩
  obtain ⟨Q, hQ⟩ : ∃ Q, Q = fnz (fun i => stpK c.ps (c.ss.take i) (c.ss.getD i spD)) c.ss.length := ⟨_, rfl⟩
  have h1 := hs.nm
  have h2 := hs.pn
  have h3 := hs.sn
  have hpl : r.pn = c.ps.length := h.ps.len
  have hsl : r.sn = c.ss.length := h.ss.len
  have hsr : r.sn = rs.length := hrg.len
  have HKK : Hid (K = if M = 0 then (if 20 < r.pn then 2 else if 40 < r.sn then 2 else if P = 0 then Q else P) else M) := by
    unfold Hid; rw [hK, rfK_eq, hM, hP, hQ, h.nm, hpl, hsl]
  have HM : Hid (∀ X, Calls Tryd.prog 22 #[.string r.nm] X fun e w' => e = .returned (.int .i64 M) ∧ w' = X) := fun X => by rw [hM]; exact spec_name r.nm X (by rw [h.nm]; omega)
  have HP : Hid (∀ (i : Nat) (hi : i < c.ps.length), (∀ X, Calls Tryd.prog 22 #[.string (c.ps[i]).nm] X fun e w' => e = .returned (.int .i64 (nameK (c.ps[i]).nm)) ∧ w' = X) ∧ (∀ X, Below W.heap.size W X → Calls Tryd.prog 23 #[.agg #[.string r.nm, .slice r.pa r.pn r.pc, .slice r.sa r.sn r.sc], .int .i64 (i : Int), .string (c.ps[i]).nm] X fun e w' => e = .returned (.int .i64 (atL (pnm (c.ps.take i)) (c.ps[i]).nm)) ∧ Below X.heap.size X w')) := fun i hi => by
    have hm := hs.ps i hi
    unfold smPm at hm
    exact ⟨fun X => spec_name _ X (by omega), fun X hb => spec_atParam r c.ps _ (by omega) (by omega) (h.ps.below hb)⟩
  have HT : Hid (∀ (i : Nat) (hi : i < c.ss.length), ∀ X, Below W.heap.size W X → Calls Tryd.prog 25 #[.agg #[.string r.nm, .slice r.pa r.pn r.pc, .slice r.sa r.sn r.sc], .int .i64 (i : Int)] X fun e w' => e = .returned (.int .i64 (stpK c.ps (c.ss.take i) c.ss[i])) ∧ Below X.heap.size X w') := fun i hi X hb => by
    have hi' : i < rs.length := by omega
    exact spec_stp r.nm r.pa r.pn r.pc r.sa r.sn r.sc rs[i] c.ss[i] rs c.ss c.ps i (by omega) (by omega) (by omega) (hs.ss i hi) ((hrel.below hb).at_ i hi' hi) (h.ps.below hb) (hrg.below hb) hi' rfl (tnm_take hrel i)
  have HS : Hid (RG 4 pmC W (.slice r.pa r.pn r.pc) c.ps ∧ r.pn = c.ps.length ∧ r.sn = c.ss.length) := ⟨h.ps, hpl, hsl⟩
  have HPQ : Hid (P = fnz (fun i => prmK (c.ps.take i) (c.ps.getD i pmD)) c.ps.length ∧ Q = fnz (fun i => stpK c.ps (c.ss.take i) (c.ss.getD i spD)) c.ss.length) := ⟨hP, hQ⟩
  have hpn : r.pn ≤ 1048576 := by omega
  have hsn : r.sn ≤ 1048576 := by omega
  rw [← hK]
  have HB0 : Hid (Below W.heap.size W (W.alloc (.cells #[.string r.nm, .slice r.pa r.pn r.pc, .slice r.sa r.sn r.sc] 33))) := by unfold Hid; (repeat' (first | (with_reducible exact Below.refl _ _) | (with_reducible assumption) | (with_reducible refine Below.setCell ?_ ?_ _) | (with_reducible refine Below.alloc ?_ ?_ _) | (with_reducible refine below_drewN ?_ _) | (with_reducible refine Below.drew ?_) | (with_reducible exact Nat.le_refl _) | omega | (simp; done) | (simp; omega)))
  have HK0 : Hid ((W.alloc (.cells #[.string r.nm, .slice r.pa r.pn r.pc, .slice r.sa r.sn r.sc] 33)).heap[W.heap.size]? = some (.cells #[.string r.nm, .slice r.pa r.pn r.pc, .slice r.sa r.sn r.sc] 33)) := heap_alloc_new _ _
  clear hK hM hP hQ h1 h2 h3 hpl hsl hsr h hs hrg hrel
  go_enter Tryd.func12, Tryd.ntmps12
  go_wp2_with (fail)
  refine (HM.out _).mono ?_
  rintro e w1 ⟨rfl, rfl⟩
  clear HM
  by_cases hm : M = 0
  case neg =>
    have hKK := HKK.out
    rw [if_neg hm] at hKK
    clear HKK
    subst hKK
    go_wp2
    go_returns
    exact ⟨rfl, HB0.out⟩
  have HK2 : Hid (K = if 20 < r.pn then 2 else if 40 < r.sn then 2 else if P = 0 then Q else P) := by
    have hKK := HKK.out
    rw [if_pos hm] at hKK
    exact hKK
  clear HKK
  subst hm
  by_cases h20 : 20 < r.pn
  · have hKK := HK2.out
    rw [if_pos h20] at hKK
    clear HK2
    subst hKK
    go_wp2
    go_returns
    exact ⟨rfl, HB0.out⟩
  by_cases h40 : 40 < r.sn
  · have hKK := HK2.out
    rw [if_neg h20, if_pos h40] at hKK
    clear HK2
    subst hKK
    go_wp2
    go_returns
    exact ⟨rfl, HB0.out⟩
  have HK3 : Hid (K = if P = 0 then Q else P) := by
    have hKK := HK2.out
    rw [if_neg h20, if_neg h40] at hKK
    exact hKK
  clear HK2
  go_wp2
  go_loopw [4] (fun i wr => ∃ t : Nat, t ≤ r.pn ∧ i = .int .i64 t ∧ Hid (Below W.heap.size W wr ∧ wr.heap[W.heap.size]? = some (.cells #[.string r.nm, .slice r.pa r.pn r.pc, .slice r.sa r.sn r.sc] 33) ∧ ∀ i, i < t → prmK (c.ps.take i) (c.ps.getD i pmD) = 0)) (fun i _ => r.pn - (intOf i).toNat)
  case atStart => exact ⟨0, Nat.zero_le _, rfl, HB0.out, HK0.out, fun i hi => by omega⟩
  case round =>
    clear HB0 HK0
    obtain ⟨t, ht, rfl, hR⟩ := hrel
    by_cases hlt : t < r.pn
    · have htl : t < c.ps.length := by rw [← HS.out.2.1]; exact hlt
      obtain ⟨g, o, c2, he, hg, hj⟩ := (HS.out.1.below hR.out.1).pos (by omega)
      simp only [Value.slice.injEq] at he
      obtain ⟨hx0, hx1, hx2⟩ := he
      clear hx1 hx2
      obtain ⟨c0, c1, c2, c3⟩ := pmC_at (hj t htl)
      obtain ⟨y, hy⟩ : ∃ y, y = c.ps[t] := ⟨_, rfl⟩
      rw [← hy] at c0 c1 c2 c3
      obtain ⟨F1, F2⟩ := HP.out t htl
      rw [← hy] at F1 F2
      obtain ⟨M, hM⟩ : ∃ M, M = nameK y.nm := ⟨_, rfl⟩
      obtain ⟨A, hA⟩ : ∃ A, A = atL (pnm (c.ps.take t)) y.nm := ⟨_, rfl⟩
      obtain ⟨I, hI⟩ : ∃ I, I = insB y.ba y.lo y.hi := ⟨_, rfl⟩
      obtain ⟨q, hq⟩ : ∃ q, q = prmK (c.ps.take t) c.ps[t] := ⟨_, rfl⟩
      have HQ : Hid ((¬ q = 0 → K = q) ∧ (q = 0 → ∀ i, i < t + 1 → prmK (c.ps.take i) (c.ps.getD i pmD) = 0) ∧ q = if M = 0 then (if 0 ≤ A then 1 else if (decide (y.lo < -1000000) || decide (1000000 < y.hi) || decide (y.hi < y.lo) || !I) = true then 3 else 0) else M) := by
        refine ⟨fun e => ?_, fun e i hi => ?_, ?_⟩
        · have hPq : P = q := by
            rw [HPQ.out.1, fnz_stop htl hR.out.2.2 (by rw [getD_at htl, ← hq]; exact e), getD_at htl, ← hq]
          rw [HK3.out, hPq, if_neg e]
        · rcases (by omega : i < t ∨ i = t) with h | rfl
          · exact hR.out.2.2 i h
          · rw [getD_at htl, ← hq]; exact e
        · rw [hq, hM, hA, hI, ← hy]; rfl
      have HM : Hid (∀ X, Calls Tryd.prog 22 #[.string y.nm] X fun e w' => e = .returned (.int .i64 M) ∧ w' = X) := by rw [hM]; exact F1
      have HA : Hid (∀ X, Below W.heap.size W X → Calls Tryd.prog 23 #[.agg #[.string r.nm, .slice r.pa r.pn r.pc, .slice r.sa r.sn r.sc], .int .i64 (t : Int), .string y.nm] X fun e w' => e = .returned (.int .i64 A) ∧ Below X.heap.size X w') := by rw [hA]; exact F2
      have HI : Hid (∀ X, Calls Tryd.prog 24 #[.int .i64 y.ba, .int .i64 y.lo, .int .i64 y.hi] X fun e w' => e = .returned (.bool I) ∧ w' = X) := fun X => by rw [hI]; exact spec_ins _ _ _ X
      obtain ⟨V, hV⟩ : ∃ V, V = wr.alloc (.cells #[.string y.nm, .int .i64 y.lo, .int .i64 y.hi, .int .i64 y.ba] 56) := ⟨_, rfl⟩
      have HVB : Hid (Below W.heap.size W V ∧ V.heap[W.heap.size]? = some (.cells #[.string r.nm, .slice r.pa r.pn r.pc, .slice r.sa r.sn r.sc] 33) ∧ V.heap[wr.heap.size]? = some (.cells #[.string y.nm, .int .i64 y.lo, .int .i64 y.hi, .int .i64 y.ba] 56)) := ⟨by rw [hV]; exact hR.out.1.alloc hR.out.1.size _, by rw [hV]; exact (Below.heap_alloc _ _ _ (ltQ hR.out.2.1)).trans hR.out.2.1, by rw [hV]; exact heap_alloc_new _ _⟩
      have HV : Hid (V = wr.alloc (.cells #[.string y.nm, .int .i64 y.lo, .int .i64 y.hi, .int .i64 y.ba] 56)) := hV
      obtain ⟨p0, p1, p2, pf, pl⟩ := three_at hR.out.2.1
      have HX0 : Hid (r.pa = some ⟨g, o, none⟩) := hx0
      rw [hx0] at p1
      clear hj hy hq hV hM hA hI F1 F2 hR pf hx0
      have b0 : (0 : Int) ≤ (t : Int) := by omega
      have b1 : (t : Int) < (r.pn : Int) := by omega
      go_wp2_with (fail)
      rw [← HV.out]
      obtain ⟨kx, hkx⟩ : ∃ k, k = wr.heap.size := ⟨_, rfl⟩
      rw [← hkx] at HVB ⊢
      clear HV hkx p0 p1 p2 pl c0 c1 c2 c3 hg
      refine (HM.out _).mono ?_
      rintro e w5 ⟨rfl, rfl⟩
      clear HM
      by_cases hm : M = 0
      case neg =>
        have hqq := HQ.out.2.2
        rw [if_neg hm] at hqq
        have hkk := HQ.out.1 (by rw [hqq]; exact hm)
        rw [hqq] at hkk
        clear HQ hqq
        subst hkk
        go_wp2
        go_returns
        exact ⟨rfl, HVB.out.1⟩
      have HQ2 : Hid ((¬ q = 0 → K = q) ∧ (q = 0 → ∀ i, i < t + 1 → prmK (c.ps.take i) (c.ps.getD i pmD) = 0) ∧ q = if 0 ≤ A then 1 else if (decide (y.lo < -1000000) || decide (1000000 < y.hi) || decide (y.hi < y.lo) || !I) = true then 3 else 0) := by
        have hqq := HQ.out.2.2
        rw [if_pos hm] at hqq
        exact ⟨HQ.out.1, HQ.out.2.1, hqq⟩
      clear HQ
      subst hm
      obtain ⟨p0, p1, p2, pf, pl⟩ := three_at HVB.out.2.1
      obtain ⟨v0, v1, v2, v3, vf, vl⟩ := quad_at HVB.out.2.2
      clear pf vf
      go_wp2_with (fail)
      refine (HA.out _ HVB.out.1).mono ?_
      rintro e w6 ⟨rfl, hb6⟩
      have HB6 : Hid (Below W.heap.size W w6 ∧ w6.heap[W.heap.size]? = some (.cells #[.string r.nm, .slice r.pa r.pn r.pc, .slice r.sa r.sn r.sc] 33) ∧ w6.heap[kx]? = some (.cells #[.string y.nm, .int .i64 y.lo, .int .i64 y.hi, .int .i64 y.ba] 56)) := ⟨HVB.out.1.trans (hb6.mono HVB.out.1.size), (hb6.block _ (ltQ HVB.out.2.1)).trans HVB.out.2.1, (hb6.block _ (ltQ HVB.out.2.2)).trans HVB.out.2.2⟩
      clear hb6 HVB HA p0 p1 p2 pl v0 v1 v2 v3 vl
      by_cases ha : 0 ≤ A
      · have hqq := HQ2.out.2.2
        rw [if_pos ha] at hqq
        have hkk := HQ2.out.1 (by rw [hqq]; omega)
        rw [hqq] at hkk
        clear HQ2 hqq
        subst hkk
        go_wp2
        go_returns
        exact ⟨rfl, HB6.out.1⟩
      have HQ3 : Hid ((¬ q = 0 → K = q) ∧ (q = 0 → ∀ i, i < t + 1 → prmK (c.ps.take i) (c.ps.getD i pmD) = 0) ∧ q = if (decide (y.lo < -1000000) || decide (1000000 < y.hi) || decide (y.hi < y.lo) || !I) = true then 3 else 0) := by
        have hqq := HQ2.out.2.2
        rw [if_neg ha] at hqq
        exact ⟨HQ2.out.1, HQ2.out.2.1, hqq⟩
      clear HQ2
      obtain ⟨v0, v1, v2, v3, vf, vl⟩ := quad_at HB6.out.2.2
      clear vf
      by_cases l1 : y.lo < -1000000
      · have hqq : q = 3 := by rw [HQ3.out.2.2, if_pos (by simp [l1])]
        have hkk := HQ3.out.1 (by rw [hqq]; omega)
        rw [hqq] at hkk
        clear HQ3 hqq
        subst hkk
        go_wp2
        go_returns
        exact ⟨rfl, HB6.out.1⟩
      by_cases l2 : 1000000 < y.hi
      · have hqq : q = 3 := by rw [HQ3.out.2.2, if_pos (by simp [l2])]
        have hkk := HQ3.out.1 (by rw [hqq]; omega)
        rw [hqq] at hkk
        clear HQ3 hqq
        subst hkk
        go_wp2
        go_returns
        exact ⟨rfl, HB6.out.1⟩
      by_cases l3 : y.hi < y.lo
      · have hqq : q = 3 := by rw [HQ3.out.2.2, if_pos (by simp [l3])]
        have hkk := HQ3.out.1 (by rw [hqq]; omega)
        rw [hqq] at hkk
        clear HQ3 hqq
        subst hkk
        go_wp2
        go_returns
        exact ⟨rfl, HB6.out.1⟩
      have HQ4 : Hid ((¬ q = 0 → K = q) ∧ (q = 0 → ∀ i, i < t + 1 → prmK (c.ps.take i) (c.ps.getD i pmD) = 0) ∧ q = if (!I) = true then 3 else 0) := by
        have hqq := HQ3.out.2.2
        rw [decide_eq_false l1, decide_eq_false l2, decide_eq_false l3] at hqq
        exact ⟨HQ3.out.1, HQ3.out.2.1, hqq⟩
      clear HQ3
      cases I with
      | false =>
        have hqq : q = 3 := HQ4.out.2.2
        have hkk := HQ4.out.1 (by rw [hqq]; omega)
        rw [hqq] at hkk
        clear HQ4 hqq
        subst hkk
        go_wp2_with (fail)
        refine (HI.out _).mono ?_
        rintro e w7 ⟨rfl, rfl⟩
        go_wp2
        go_returns
        exact ⟨rfl, HB6.out.1⟩
      | true =>
        have hqq : q = 0 := HQ4.out.2.2
        have HG : Hid (∀ i, i < t + 1 → prmK (c.ps.take i) (c.ps.getD i pmD) = 0) := HQ4.out.2.1 hqq
        clear HQ4 hqq
        go_wp2_with (fail)
        refine (HI.out _).mono ?_
        rintro e w7 ⟨rfl, rfl⟩
        go_wp2
        go_roundw
        case rel => exact ⟨t + 1, by omega, by go_num, HB6.out.1, HB6.out.2.1, HG.out⟩
        case measure => simp [intOf]; omega
    · have HK4 : Hid (K = Q) := by
        have hP0 : P = 0 := by
          rw [HPQ.out.1]
          exact fnz_zero (fun i hi => hR.out.2.2 i (by have := HS.out.2.1; omega))
        unfold Hid; rw [HK3.out, if_pos hP0]
      have HB : Hid (Below W.heap.size W wr ∧ wr.heap[W.heap.size]? = some (.cells #[.string r.nm, .slice r.pa r.pn r.pc, .slice r.sa r.sn r.sc] 33)) := ⟨hR.out.1, hR.out.2.1⟩
      obtain ⟨r0, r1, r2, rf, rl⟩ := three_at hR.out.2.1
      clear hR rf HP HK3
      go_wp2
      clear r0 r1 r2 rl
      go_loopw [7] (fun i wr => ∃ t : Nat, t ≤ r.sn ∧ i = .int .i64 t ∧ Hid (Below W.heap.size W wr ∧ wr.heap[W.heap.size]? = some (.cells #[.string r.nm, .slice r.pa r.pn r.pc, .slice r.sa r.sn r.sc] 33) ∧ ∀ i, i < t → stpK c.ps (c.ss.take i) (c.ss.getD i spD) = 0)) (fun i _ => r.sn - (intOf i).toNat)
      case atStart => exact ⟨0, Nat.zero_le _, rfl, HB.out.1, HB.out.2, fun i hi => by omega⟩
      case round =>
        clear HB
        obtain ⟨t, ht, rfl, hR⟩ := hrel
        obtain ⟨r0, r1, r2, rf, rl⟩ := three_at hR.out.2.1
        clear rf
        by_cases hlt : t < r.sn
        · have htl : t < c.ss.length := by rw [← HS.out.2.2]; exact hlt
          obtain ⟨q, hq⟩ : ∃ q, q = stpK c.ps (c.ss.take t) c.ss[t] := ⟨_, rfl⟩
          have HQ : Hid ((¬ q = 0 → K = q) ∧ (q = 0 → ∀ i, i < t + 1 → stpK c.ps (c.ss.take i) (c.ss.getD i spD) = 0)) := by
            refine ⟨fun e => ?_, fun e i hi => ?_⟩
            · rw [HK4.out, HPQ.out.2, fnz_stop htl hR.out.2.2 (by rw [getD_at htl, ← hq]; exact e), getD_at htl, ← hq]
            · rcases (by omega : i < t ∨ i = t) with h | rfl
              · exact hR.out.2.2 i h
              · rw [getD_at htl, ← hq]; exact e
          have HC : Hid (Calls Tryd.prog 25 #[.agg #[.string r.nm, .slice r.pa r.pn r.pc, .slice r.sa r.sn r.sc], .int .i64 (t : Int)] wr fun e w' => e = .returned (.int .i64 q) ∧ Below wr.heap.size wr w') := by rw [hq]; exact HT.out t htl wr hR.out.1
          have HR : Hid (Below W.heap.size W wr ∧ wr.heap[W.heap.size]? = some (.cells #[.string r.nm, .slice r.pa r.pn r.pc, .slice r.sa r.sn r.sc] 33)) := ⟨hR.out.1, hR.out.2.1⟩
          clear hq hR HT
          go_wp2_with (fail)
          refine HC.out.mono ?_
          rintro e w6 ⟨rfl, hb6⟩
          have HB6 : Hid (Below W.heap.size W w6 ∧ w6.heap[W.heap.size]? = some (.cells #[.string r.nm, .slice r.pa r.pn r.pc, .slice r.sa r.sn r.sc] 33)) := ⟨HR.out.1.trans (hb6.mono HR.out.1.size), (hb6.block _ (ltQ HR.out.2)).trans HR.out.2⟩
          clear hb6 HR HC r0 r1 r2 rl
          by_cases hq0 : q = 0
          · have HG : Hid (∀ i, i < t + 1 → stpK c.ps (c.ss.take i) (c.ss.getD i spD) = 0) := HQ.out.2 hq0
            clear HQ
            subst hq0
            go_wp2
            go_roundw
            case rel => exact ⟨t + 1, by omega, by go_num, HB6.out.1, HB6.out.2, HG.out⟩
            case measure => simp [intOf]; omega
          · have hKq := HQ.out.1 hq0
            clear HQ
            subst hKq
            go_wp2
            go_returns
            exact ⟨rfl, HB6.out.1⟩
        · have hk0 : K = 0 := by
            rw [HK4.out, HPQ.out.2]
            exact fnz_zero (fun i hi => hR.out.2.2 i (by have := HS.out.2.2; omega))
          have HB : Hid (Below W.heap.size W wr) := hR.out.1
          clear hR
          clear HK4 HPQ
          subst hk0
          go_wp2
          go_returns
          exact ⟨rfl, HB.out⟩

end Go.Proofs.YtnljomeacnjmmaaDoor
