/- Proved here: TraceAt of the model: trC, trN, trW. -/
import Derived.Test.YtgjdcdhdfhkfcaaTrM
import Derived.Test.YtgjdcdhdfhkfcaaTrQ
import Derived.Test.YtgjdcdhdfhkfcaaReg
import Derived.BigQuiet
namespace Go.Proofs.Ytgjdcdhdfhkfcaa
open Go.RowKit
set_option linter.unusedVariables false
set_option linter.unusedSimpArgs false

set_option maxRecDepth 20000 in
set_option maxHeartbeats 25600000 in
theorem spec_trace {w : World} {g1 g2 : Nat} {xs ys : List Nat} (x : Nat) (hn1 : xs.length ≤ 1048576) (hn2 : ys.length ≤ 1048576) (h1 : RFl w (.slice (some ⟨g1, 0, none⟩) xs.length xs.length) xs) (h2 : RFl w (.slice (some ⟨g2, 0, none⟩) ys.length ys.length) ys) :
    Calls Try.prog 36 #[.slice (some ⟨g1, 0, none⟩) xs.length xs.length, .slice (some ⟨g2, 0, none⟩) ys.length ys.length, .float .f64 x] w fun e w' => ∃ y, e = .returned (.agg #[.int .i64 (trC xs ys x), .int .i64 (trN xs ys x), .float .f64 y]) ∧ fv y = trW xs ys x ∧ Below w.heap.size w w' := by
  obtain ⟨n, hn⟩ : ∃ n, n = xs.length := ⟨_, rfl⟩
  obtain ⟨m, hm⟩ : ∃ m, m = ys.length := ⟨_, rfl⟩
  obtain ⟨C, hC⟩ : ∃ C, C = trC xs ys x := ⟨_, rfl⟩
  have HX0 : Hid (RFl w (.slice (some ⟨g1, 0, none⟩) n n) xs ∧ RFl w (.slice (some ⟨g2, 0, none⟩) m m) ys) := ⟨by rw [hn]; exact h1, by rw [hm]; exact h2⟩
  have HL : Hid (n = xs.length ∧ m = ys.length ∧ C = trC xs ys x ∧ C = if 200 < n ∨ 200 < m then 2 else if n ≠ m ∨ n < 2 then 1 else if riseF xs ∧ inF xs x then 0 else 3) := ⟨hn, hm, hC, by rw [hC, trC, hn, hm]⟩
  rw [← hn] at hn1
  rw [← hm] at hn2
  rw [← hn, ← hm, ← hC]
  clear h1 h2 hn hm hC
  by_cases c1 : (200 : Int) < (n : Int)
  · have HC : Hid (C = 2 ∧ trN xs ys x = 0 ∧ trW xs ys x = some 0) := by
      have e : C = 2 := by rw [HL.out.2.2.2]; rw [if_pos (.inl (by omega))]
      have e2 : trC xs ys x = 2 := by rw [← HL.out.2.2.1]; exact e
      exact ⟨e, by rw [trN, e2, if_neg (by decide)], by rw [trW, e2, if_neg (by decide)]⟩
    
    clear HX0 HL
    go_enter Try.func36, Try.ntmps36
    go_wp2
    go_returns
    exact ⟨0, by rw [HC.out.1, HC.out.2.1], by rw [HC.out.2.2]; decide, by (repeat' (first | (with_reducible exact Below.refl _ _) | (with_reducible assumption) | (with_reducible refine Below.setCell ?_ ?_ _) | (with_reducible refine Below.alloc ?_ ?_ _) | (with_reducible refine below_drewN ?_ _) | (with_reducible refine Below.drew ?_) | (with_reducible exact Nat.le_refl _) | omega | (simp; done) | (simp; omega)))⟩
  by_cases c2 : (200 : Int) < (m : Int)
  · have HC : Hid (C = 2 ∧ trN xs ys x = 0 ∧ trW xs ys x = some 0) := by
      have e : C = 2 := by rw [HL.out.2.2.2]; rw [if_pos (.inr (by omega))]
      have e2 : trC xs ys x = 2 := by rw [← HL.out.2.2.1]; exact e
      exact ⟨e, by rw [trN, e2, if_neg (by decide)], by rw [trW, e2, if_neg (by decide)]⟩
    
    clear HX0 HL
    go_enter Try.func36, Try.ntmps36
    go_wp2
    go_returns
    exact ⟨0, by rw [HC.out.1, HC.out.2.1], by rw [HC.out.2.2]; decide, by (repeat' (first | (with_reducible exact Below.refl _ _) | (with_reducible assumption) | (with_reducible refine Below.setCell ?_ ?_ _) | (with_reducible refine Below.alloc ?_ ?_ _) | (with_reducible refine below_drewN ?_ _) | (with_reducible refine Below.drew ?_) | (with_reducible exact Nat.le_refl _) | omega | (simp; done) | (simp; omega)))⟩
  by_cases c3 : ¬ (n : Int) = (m : Int)
  · have HC : Hid (C = 1 ∧ trN xs ys x = 0 ∧ trW xs ys x = some 0) := by
      have e : C = 1 := by rw [HL.out.2.2.2]; rw [if_neg (by omega), if_pos (.inl (by omega))]
      have e2 : trC xs ys x = 1 := by rw [← HL.out.2.2.1]; exact e
      exact ⟨e, by rw [trN, e2, if_neg (by decide)], by rw [trW, e2, if_neg (by decide)]⟩
    have c3' : ((n : Int) != (m : Int)) = true := by simpa using c3
    clear HX0 HL
    go_enter Try.func36, Try.ntmps36
    go_wp2
    go_returns
    exact ⟨0, by rw [HC.out.1, HC.out.2.1], by rw [HC.out.2.2]; decide, by (repeat' (first | (with_reducible exact Below.refl _ _) | (with_reducible assumption) | (with_reducible refine Below.setCell ?_ ?_ _) | (with_reducible refine Below.alloc ?_ ?_ _) | (with_reducible refine below_drewN ?_ _) | (with_reducible refine Below.drew ?_) | (with_reducible exact Nat.le_refl _) | omega | (simp; done) | (simp; omega)))⟩
  obtain rfl : n = m := by omega
  clear c3
  by_cases c4 : (n : Int) < 2
  · have HC : Hid (C = 1 ∧ trN xs ys x = 0 ∧ trW xs ys x = some 0) := by
      have e : C = 1 := by rw [HL.out.2.2.2]; rw [if_neg (by omega), if_pos (.inr (by omega))]
      have e2 : trC xs ys x = 1 := by rw [← HL.out.2.2.1]; exact e
      exact ⟨e, by rw [trN, e2, if_neg (by decide)], by rw [trW, e2, if_neg (by decide)]⟩
    
    clear HX0 HL
    go_enter Try.func36, Try.ntmps36
    go_wp2
    go_returns
    exact ⟨0, by rw [HC.out.1, HC.out.2.1], by rw [HC.out.2.2]; decide, by (repeat' (first | (with_reducible exact Below.refl _ _) | (with_reducible assumption) | (with_reducible refine Below.setCell ?_ ?_ _) | (with_reducible refine Below.alloc ?_ ?_ _) | (with_reducible refine below_drewN ?_ _) | (with_reducible refine Below.drew ?_) | (with_reducible exact Nat.le_refl _) | omega | (simp; done) | (simp; omega)))⟩
  have HX := HX0
  have hnb : 2 ≤ n ∧ n ≤ 200 := by omega
  have e1 : IntKind.i64.wrap ((n : Int) - 1) = ((n - 1 : Nat) : Int) := by rw [IntKind.wrap_i64]; omega
  have e2 : IntKind.i64.wrap ((n : Int) - 2) = ((n - 2 : Nat) : Int) := by rw [IntKind.wrap_i64]; omega
  obtain ⟨N1, hN1⟩ : ∃ N, N = n - 1 := ⟨_, rfl⟩
  obtain ⟨N2, hN2⟩ : ∃ N, N = n - 2 := ⟨_, rfl⟩
  rw [← hN1] at e1
  rw [← hN2] at e2
  have HN : Hid (N1 = n - 1 ∧ N2 = n - 2) := ⟨hN1, hN2⟩
  have z8 : (N1 : Int) < (n : Int) := by omega
  have z9 : (0 : Int) ≤ (N1 : Int) := by omega
  have z10 : (0 : Int) < (n : Int) := by omega
  clear HX0 hN1 hN2
  obtain ⟨W0, hW0⟩ : ∃ W, W = w.alloc (.cells #[.int .i64 0, .int .i64 0, .float .f64 0] 62) := ⟨_, rfl⟩
  have HW0 : Hid (Below w.heap.size w W0 ∧ W0.heap[w.heap.size]? = some (.cells #[.int .i64 0, .int .i64 0, .float .f64 0] 62)) := by
    rw [hW0]; exact ⟨by (repeat' (first | (with_reducible exact Below.refl _ _) | (with_reducible assumption) | (with_reducible refine Below.setCell ?_ ?_ _) | (with_reducible refine Below.alloc ?_ ?_ _) | (with_reducible refine below_drewN ?_ _) | (with_reducible refine Below.drew ?_) | (with_reducible exact Nat.le_refl _) | omega | (simp; done) | (simp; omega))), heap_alloc_new _ _⟩
  go_enter Try.func36, Try.ntmps36
  go_wp2
  rw [← hW0]
  clear hW0
  go_loopw [8] (fun i wr => ∃ j k : Nat, j + 1 ≤ n ∧ i = .int .i64 k ∧ Hid (k = j + 1 ∧ Below W0.heap.size W0 wr ∧ ∀ t, t < j → ltF (xs.getD t 0) (xs.getD (t + 1) 0))) (fun i _ => n - (intOf i).toNat)
  case atStart => exact ⟨0, 1, by omega, rfl, rfl, Below.refl _ _, fun t ht => absurd ht (Nat.not_lt_zero _)⟩
  case round =>
    obtain ⟨j, k, hj, rfl, hR⟩ := hrel
    have hkj := hR.out.1
    have HBW : Hid (Below w.heap.size w wr) := HW0.out.1.trans (hR.out.2.1.mono HW0.out.1.size)
    have HRS : Hid (wr.heap[w.heap.size]? = some (.cells #[.int .i64 0, .int .i64 0, .float .f64 0] 62)) := (hR.out.2.1.block _ (ltOf HW0.out.2)).trans HW0.out.2
    by_cases hlt : k < n
    · obtain ⟨g, o, z, ha, hg, hz, c0⟩ := rf_at (HX.out.1.below HBW.out) (show j < n by omega)
      injection ha with ha
      injection ha with ha1 ha2
      subst ha1 ha2
      obtain ⟨g, o, y, ha, hg', hy, d0⟩ := rf_at (HX.out.1.below HBW.out) hlt
      injection ha with ha
      injection ha with ha1 ha2
      subst ha1 ha2
      rw [Nat.zero_add] at c0 d0
      have hzd := getD_at hz
      have hyd := getD_at hy
      rw [hkj] at hyd
      have e3 : IntKind.i64.wrap ((k : Int) - 1) = (j : Int) := by rw [IntKind.wrap_i64]; omega
      have b5 : (0 : Int) ≤ (k : Int) := by omega
      have b6 : (k : Int) < (n : Int) := by omega
      have b7 : (j : Int) < (n : Int) := by omega
      have b8 : (0 : Int) ≤ (j : Int) := by omega
      have e4 : IntKind.i64.wrap ((k : Int) + 1) = (k : Int) + 1 := by rw [IntKind.wrap_i64]; omega
      by_cases hc : ltF z y
      · have HS : Hid (∀ t, t < j + 1 → ltF (xs.getD t 0) (xs.getD (t + 1) 0)) := fun t ht => by
          by_cases htj : t = j
          · subst htj; rw [hzd, hyd]; exact hc
          · exact hR.out.2.2 t (by omega)
        have HK : Hid (k = j + 1 ∧ Below W0.heap.size W0 wr) := ⟨hkj, hR.out.2.1⟩
        have ql : (FloatKind.f64.format.order z y == some .lt) = true := by rw [ord_lt, decide_eq_true hc]
        clear hz hy hzd hyd hR hc hkj hg' HRS
        go_wp2
        go_quiet (fail)
        go_wp2
        go_roundw
        case rel => exact ⟨j + 1, k + 1, by have := HK.out.1; omega, by go_num, by have := HK.out.1; omega, by have hb := HK.out.2; (repeat' (first | (with_reducible exact Below.refl _ _) | (with_reducible assumption) | (with_reducible refine Below.setCell ?_ ?_ _) | (with_reducible refine Below.alloc ?_ ?_ _) | (with_reducible refine below_drewN ?_ _) | (with_reducible refine Below.drew ?_) | (with_reducible exact Nat.le_refl _) | omega | (simp; done) | (simp; omega))), HS.out⟩
        case measure => simp [intOf]; omega
      · have hnr : ¬ (riseF xs ∧ inF xs x) := fun h => by
          have h9 := h.1 j (by rw [← HL.out.1]; omega)
          rw [hzd, hyd] at h9
          exact hc h9
        have HX3 : Hid (C = 3 ∧ trN xs ys x = 0 ∧ trW xs ys x = some 0) := by
          have e : C = 3 := by rw [HL.out.2.2.2, if_neg (by omega), if_neg (by omega), if_neg (hnr)]
          have e2 : trC xs ys x = 3 := by rw [← HL.out.2.2.1]; exact e
          exact ⟨e, by rw [trN, e2, if_neg (by decide)], by rw [trW, e2, if_neg (by decide)]⟩
        have qo : (FloatKind.f64.format.order z y == some .lt) = false := by rw [ord_lt, decide_eq_false hc]
        obtain ⟨q0, q1, q2, f0, f1, f2, ql⟩ := three_q HRS.out
        clear hz hy hzd hyd hR hc hkj hg' hnr
        go_wp2
        go_quiet (fail)
        go_wp2
        try simp only [Exit.inBlock, Exit.then]
        refine bodyPost_ret (by simp [results, Try.results36, go_sem, q0, q1, q2, ql]; try rfl) rfl ⟨0, by rw [HX3.out.1, HX3.out.2.1], by rw [HX3.out.2.2]; decide, ?_⟩
        have hb := HBW.out
        (repeat' (first | (with_reducible exact Below.refl _ _) | (with_reducible assumption) | (with_reducible refine Below.setCell ?_ ?_ _) | (with_reducible refine Below.alloc ?_ ?_ _) | (with_reducible refine below_drewN ?_ _) | (with_reducible refine Below.drew ?_) | (with_reducible exact Nat.le_refl _) | omega | (simp; done) | (simp; omega)))
    · have HR : Hid (riseF xs) := by
        intro t ht
        exact hR.out.2.2 t (by have := HL.out.1; omega)
      obtain ⟨g, o, z, ha, hg, hz, c0⟩ := rf_at (HX.out.1.below HBW.out) (show 0 < n by omega)
      injection ha with ha
      injection ha with ha1 ha2
      subst ha1 ha2
      obtain ⟨g, o, y, ha, hg', hy, d0⟩ := rf_at (HX.out.1.below HBW.out) (show N1 < n by omega)
      injection ha with ha
      injection ha with ha1 ha2
      subst ha1 ha2
      rw [Nat.zero_add] at c0 d0
      have hin : inF xs x ↔ leF z x ∧ leF x y := by
        unfold inF
        rw [getD_at hz, show xs.length - 1 = N1 by have := HL.out.1; have := HN.out.1; omega, getD_at hy]
      have bk : ¬ (k : Int) < (n : Int) := by omega
      clear hz hy hR hg' hkj hlt
      by_cases p1 : leF z x
      · have r1 : (FloatKind.f64.format.order z x == some .lt || FloatKind.f64.format.order z x == some .eq) = true := by rw [ord_le, decide_eq_true p1]
        by_cases p2 : leF x y
        · have r2 : (FloatKind.f64.format.order x y == some .lt || FloatKind.f64.format.order x y == some .eq) = true := by rw [ord_le, decide_eq_true p2]
          have HC0 : Hid (trC xs ys x = 0 ∧ riseF xs ∧ inF xs x ∧ n = xs.length ∧ C = 0) := by
            have e : C = 0 := by rw [HL.out.2.2.2, if_neg (by omega), if_neg (by omega), if_pos ⟨HR.out, hin.2 ⟨p1, p2⟩⟩]
            exact ⟨by rw [← HL.out.2.2.1]; exact e, HR.out, hin.2 ⟨p1, p2⟩, HL.out.1, e⟩
          clear p1 p2 hin HR
          go_wp2
          clear c0 d0 r1 r2 bk
          obtain ⟨w5, hw5⟩ : ∃ x, x = wr := ⟨_, rfl⟩
          rw [← hw5]
          have HB5 : Hid (Below w.heap.size w w5 ∧ w5.heap[w.heap.size]? = some (.cells #[.int .i64 0, .int .i64 0, .float .f64 0] 62)) := by rw [hw5]; exact ⟨HBW.out, HRS.out⟩
          clear HBW HRS hw5
          go_loopw [9] (fun i wr => ∃ p : Nat, p + 2 ≤ n ∧ i = .int .i64 p ∧ wr = w5 ∧ Hid (∀ t, p < t → t ≤ n - 2 → ltF x (xs.getD t 0))) (fun i _ => (intOf i).toNat)
          case atStart => exact ⟨N2, by have := HN.out.2; omega, rfl, rfl, fun t h1 h2 => by have := HN.out.2; omega⟩
          case round =>
            obtain ⟨p, hp, rfl, rfl, hR⟩ := hrel
            have HRS : Hid (wr.heap[w.heap.size]? = some (.cells #[.int .i64 0, .int .i64 0, .float .f64 0] 62)) := HB5.out.2
            have HBW : Hid (Below w.heap.size w wr) := HB5.out.1
            by_cases hp0 : (0 : Int) < (p : Int)
            · obtain ⟨g, o, xq, ha, hgq, hzq, cq⟩ := rf_at HX.out.1 (show p < n by omega)
              injection ha with ha
              injection ha with ha1 ha2
              subst ha1 ha2
              rw [Nat.zero_add] at cq
              have cq2 := (HBW.out.cell (p := ⟨g1, p, none⟩) hgq).trans cq
              have y1 : (p : Int) < (n : Int) := by omega
              have y0 : (0 : Int) ≤ (p : Int) := by omega
              have hzd := getD_at hzq
              clear cq hzq
              by_cases hc : ltF x xq
              · have qo : (FloatKind.f64.format.order x xq == some .lt) = true := by rw [ord_lt, decide_eq_true hc]
                have HS : Hid (∀ t, p - 1 < t → t ≤ n - 2 → ltF x (xs.getD t 0)) := fun t h1 h2 => by
                  by_cases htp : t = p
                  · subst htp; rw [hzd]; exact hc
                  · exact hR.out t (by omega) h2
                have e5 : IntKind.i64.wrap ((p : Int) - 1) = ((p - 1 : Nat) : Int) := by rw [IntKind.wrap_i64]; omega
                clear hc hR hzd
                go_wp2
                go_roundw
                case rel => exact ⟨p - 1, by omega, rfl, by first | rfl | trivial, HS.out⟩
                case measure => simp [intOf]; omega
              · have qo : (FloatKind.f64.format.order x xq == some .lt) = false := by rw [ord_lt, decide_eq_false hc]
                have HE : Hid (trG xs x (xs.length - 2) = p) := trG_is (.inr (by rw [hzd]; exact hc)) _ (by rw [← HC0.out.2.2.2.1]; omega) (by rw [← HC0.out.2.2.2.1]; exact hR.out)
                clear hc hR hzd
                go_wp2_with (fail)
                clear cq2 qo y0 y1 hp0
                obtain ⟨g, o, xa, ha, hgx, hzx, cx0⟩ := rf_at HX.out.1 (show p < n by omega)
                injection ha with ha
                injection ha with ha1 ha2
                subst ha1 ha2
                obtain ⟨g, o, xb, ha, hgx', hzx', cx1⟩ := rf_at HX.out.1 (show p + 1 < n by omega)
                injection ha with ha
                injection ha with ha1 ha2
                subst ha1 ha2
                obtain ⟨g, o, ya, ha, hgy, hzy, cy0⟩ := rf_at HX.out.2 (show p < n by omega)
                injection ha with ha
                injection ha with ha1 ha2
                subst ha1 ha2
                obtain ⟨g, o, yb, ha, hgy', hzy', cy1⟩ := rf_at HX.out.2 (show p + 1 < n by omega)
                injection ha with ha
                injection ha with ha1 ha2
                subst ha1 ha2
                obtain ⟨p1, hp1⟩ : ∃ p1, p1 = p + 1 := ⟨_, rfl⟩
                rw [Nat.zero_add, ← hp1] at cx1 cy1
                rw [Nat.zero_add] at cx0 cy0
                have HVW : Hid (trN xs ys x = (p : Int) ∧ trW xs ys x = trV xs ys x p) := by
                  refine ⟨?_, ?_⟩
                  · rw [trN, HC0.out.1, if_pos rfl, HE.out]
                  · rw [trW, HC0.out.1, if_pos rfl, HE.out]
                have HYD : Hid (ys.getD p 0 = ya ∧ ys.getD (p + 1) 0 = yb ∧ xs.getD p 0 = xa ∧ xs.getD (p + 1) 0 = xb) := ⟨getD_at hzy, getD_at hzy', getD_at hzx, getD_at hzx'⟩
                have HYA : Hid (wr.cell? ⟨g2, p, none⟩ = some (.float .f64 ya)) := (HBW.out.cell (p := ⟨g2, p, none⟩) hgy).trans cy0
                have HYB : Hid (wr.cell? ⟨g2, p1, none⟩ = some (.float .f64 yb)) := (HBW.out.cell (p := ⟨g2, p1, none⟩) hgy).trans cy1
                have cz0 := (HBW.out.cell (p := ⟨g1, p, none⟩) hgx).trans cx0
                have cz1 := (HBW.out.cell (p := ⟨g1, p1, none⟩) hgx).trans cx1
                clear cx0 cx1 cy0 cy1
                have cx0 := cz0
                have cx1 := cz1
                have e9 : IntKind.i64.wrap ((p : Int) + 1) = (p1 : Int) := by rw [IntKind.wrap_i64]; omega
                have z0 : (0 : Int) ≤ (p : Int) := by omega
                have z1 : (0 : Int) ≤ (p1 : Int) := by omega
                have z2 : (p : Int) < (n : Int) := by omega
                have z3 : (p1 : Int) < (n : Int) := by omega
                clear cz0 cz1 hzx hzx' hzy hzy' hp1 hgx' hgy' HE
                refine wp_region_holdsA (S := KA w.heap.size wr) (by kernel_rfl) (KA.of (Below.drew (Below.refl _ _))) (fun hS => ?_)
                refine fl_takeA (i := 0) (d := 78) (v := .float .f64 x) rfl rfl rfl (by kernel_rfl) (by kernel_rfl) (by kernel_rfl) hS ?_ ?_
                · intro w' hk; unfold KA at hk; go_simp
                simp only [Act.put, List.setIfInBounds_toArray, List.set_cons_zero, List.set_cons_succ]
                refine fl_takeA (i := 1) (d := 79) (v := .slice (some ⟨g1, 0, none⟩) n n) rfl rfl rfl (by kernel_rfl) (by kernel_rfl) (by kernel_rfl) hS ?_ ?_
                · intro w' hk; unfold KA at hk; go_simp
                simp only [Act.put, List.setIfInBounds_toArray, List.set_cons_zero, List.set_cons_succ]
                refine fl_takeA (i := 2) (d := 80) (v := .int .i64 p) rfl rfl rfl (by kernel_rfl) (by kernel_rfl) (by kernel_rfl) hS ?_ ?_
                · intro w' hk; unfold KA at hk; go_simp
                simp only [Act.put, List.setIfInBounds_toArray, List.set_cons_zero, List.set_cons_succ]
                refine fl_takeA (i := 3) (d := 81) (v := .pointer (some ⟨g1, p, none⟩)) rfl rfl rfl (by kernel_rfl) (by kernel_rfl) (by kernel_rfl) hS ?_ ?_
                · intro w' hk; unfold KA at hk; go_simp
                simp only [Act.put, List.setIfInBounds_toArray, List.set_cons_zero, List.set_cons_succ]
                refine fl_takeA (i := 4) (d := 82) (v := .float .f64 xa) rfl rfl rfl (by kernel_rfl) (by kernel_rfl) (by kernel_rfl) hS ?_ ?_
                · intro w' hk; unfold KA at hk; go_simp
                simp only [Act.put, List.setIfInBounds_toArray, List.set_cons_zero, List.set_cons_succ]
                refine fl_takeA (i := 6) (d := 84) (v := .slice (some ⟨g1, 0, none⟩) n n) rfl rfl rfl (by kernel_rfl) (by kernel_rfl) (by kernel_rfl) hS ?_ ?_
                · intro w' hk; unfold KA at hk; go_simp
                simp only [Act.put, List.setIfInBounds_toArray, List.set_cons_zero, List.set_cons_succ]
                refine fl_takeA (i := 7) (d := 85) (v := .int .i64 p) rfl rfl rfl (by kernel_rfl) (by kernel_rfl) (by kernel_rfl) hS ?_ ?_
                · intro w' hk; unfold KA at hk; go_simp
                simp only [Act.put, List.setIfInBounds_toArray, List.set_cons_zero, List.set_cons_succ]
                refine fl_takeA (i := 8) (d := 86) (v := .int .i64 p1) rfl rfl rfl (by kernel_rfl) (by kernel_rfl) (by kernel_rfl) hS ?_ ?_
                · intro w' hk; unfold KA at hk; go_simp
                simp only [Act.put, List.setIfInBounds_toArray, List.set_cons_zero, List.set_cons_succ]
                refine fl_takeA (i := 9) (d := 87) (v := .pointer (some ⟨g1, p1, none⟩)) rfl rfl rfl (by kernel_rfl) (by kernel_rfl) (by kernel_rfl) hS ?_ ?_
                · intro w' hk; unfold KA at hk; go_simp
                simp only [Act.put, List.setIfInBounds_toArray, List.set_cons_zero, List.set_cons_succ]
                refine fl_takeA (i := 10) (d := 88) (v := .float .f64 xb) rfl rfl rfl (by kernel_rfl) (by kernel_rfl) (by kernel_rfl) hS ?_ ?_
                · intro w' hk; unfold KA at hk; go_simp
                simp only [Act.put, List.setIfInBounds_toArray, List.set_cons_zero, List.set_cons_succ]
                refine fl_takeA (i := 11) (d := 89) (v := .slice (some ⟨g1, 0, none⟩) n n) rfl rfl rfl (by kernel_rfl) (by kernel_rfl) (by kernel_rfl) hS ?_ ?_
                · intro w' hk; unfold KA at hk; go_simp
                simp only [Act.put, List.setIfInBounds_toArray, List.set_cons_zero, List.set_cons_succ]
                refine fl_takeA (i := 12) (d := 90) (v := .int .i64 p) rfl rfl rfl (by kernel_rfl) (by kernel_rfl) (by kernel_rfl) hS ?_ ?_
                · intro w' hk; unfold KA at hk; go_simp
                simp only [Act.put, List.setIfInBounds_toArray, List.set_cons_zero, List.set_cons_succ]
                refine fl_takeA (i := 13) (d := 91) (v := .pointer (some ⟨g1, p, none⟩)) rfl rfl rfl (by kernel_rfl) (by kernel_rfl) (by kernel_rfl) hS ?_ ?_
                · intro w' hk; unfold KA at hk; go_simp
                simp only [Act.put, List.setIfInBounds_toArray, List.set_cons_zero, List.set_cons_succ]
                refine fl_takeA (i := 14) (d := 92) (v := .float .f64 xa) rfl rfl rfl (by kernel_rfl) (by kernel_rfl) (by kernel_rfl) hS ?_ ?_
                · intro w' hk; unfold KA at hk; go_simp
                simp only [Act.put, List.setIfInBounds_toArray, List.set_cons_zero, List.set_cons_succ]
                refine wpAnyH_all (rs := [5, 15]) (by kernel_rfl) (by simp) ?_
                intro iz hi
                have hi : iz = 5 ∨ iz = 15 := by simpa using hi
                rcases hi with rfl | rfl
                · refine op_val (d := 83) (v := .float .f64 (fres .sub x xa wr.drew)) (w' := (wr.drew.drewN (fnn .sub x xa))) rfl rfl rfl (by go_simp; try rfl) ?_
                  simp only [Act.put, List.setIfInBounds_toArray, List.set_cons_zero, List.set_cons_succ]
                  have hK1 : KA w.heap.size wr (wr.drew.drewN (fnn .sub x xa)) := KA.of (below_drewN hS.2 _)
                  refine ⟨hK1, ?_⟩
                  refine wpAnyH_all (rs := [15]) (by kernel_rfl) (by simp) ?_
                  intro iz hi
                  obtain rfl : iz = 15 := by simpa using hi
                  clear hi
                  refine op_val (d := 93) (v := .float .f64 (fres .sub xb xa (wr.drew.drewN (fnn .sub x xa)))) (w' := ((wr.drew.drewN (fnn .sub x xa)).drewN (fnn .sub xb xa))) rfl rfl rfl (by go_simp; try rfl) ?_
                  simp only [Act.put, List.setIfInBounds_toArray, List.set_cons_zero, List.set_cons_succ]
                  have hK2 : KA w.heap.size wr ((wr.drew.drewN (fnn .sub x xa)).drewN (fnn .sub xb xa)) := KA.of (below_drewN hK1.2 _)
                  refine ⟨hK2, ?_⟩
                  refine wpAnyH_all (rs := [16]) (by kernel_rfl) (by simp) ?_
                  intro iz hi
                  obtain rfl : iz = 16 := by simpa using hi
                  clear hi
                  refine op_val (d := 94) (v := .float .f64 (fres .quo (fres .sub x xa wr.drew) (fres .sub xb xa (wr.drew.drewN (fnn .sub x xa))) ((wr.drew.drewN (fnn .sub x xa)).drewN (fnn .sub xb xa)))) (w' := (((wr.drew.drewN (fnn .sub x xa)).drewN (fnn .sub xb xa)).drewN (fnn .quo (fres .sub x xa wr.drew) (fres .sub xb xa (wr.drew.drewN (fnn .sub x xa)))))) rfl rfl rfl (by go_simp; try rfl) ?_
                  simp only [Act.put, List.setIfInBounds_toArray, List.set_cons_zero, List.set_cons_succ]
                  have hK3 : KA w.heap.size wr (((wr.drew.drewN (fnn .sub x xa)).drewN (fnn .sub xb xa)).drewN (fnn .quo (fres .sub x xa wr.drew) (fres .sub xb xa (wr.drew.drewN (fnn .sub x xa))))) := KA.of (below_drewN hK2.2 _)
                  refine ⟨hK3, ?_⟩
                  refine wpAnyH_all (rs := [17]) (by kernel_rfl) (by simp) ?_
                  intro iz hi
                  obtain rfl : iz = 17 := by simpa using hi
                  clear hi
                  refine op_val (d := 10) (v := .float .f64 (fres .quo (fres .sub x xa wr.drew) (fres .sub xb xa (wr.drew.drewN (fnn .sub x xa))) ((wr.drew.drewN (fnn .sub x xa)).drewN (fnn .sub xb xa)))) (w' := (((wr.drew.drewN (fnn .sub x xa)).drewN (fnn .sub xb xa)).drewN (fnn .quo (fres .sub x xa wr.drew) (fres .sub xb xa (wr.drew.drewN (fnn .sub x xa)))))) rfl rfl rfl (by go_simp; try rfl) ?_
                  simp only [Act.put, List.setIfInBounds_toArray, List.set_cons_zero, List.set_cons_succ]
                  refine ⟨hK3, wpAnyH_done (by kernel_rfl) (NoPanic.normal ?_) _⟩
                  obtain ⟨Q, hQ⟩ : ∃ Q, Q = fres .quo (fres .sub x xa wr.drew) (fres .sub xb xa (wr.drew.drewN (fnn .sub x xa))) ((wr.drew.drewN (fnn .sub x xa)).drewN (fnn .sub xb xa)) := ⟨_, rfl⟩
                  have HQ : Hid (fv Q = fop .quo (fop .sub (fv x) (fv xa)) (fop .sub (fv xb) (fv xa))) := by unfold Hid; rw [hQ, fv_fres, fv_fres, fv_fres]
                  rw [← hQ]
                  clear hQ
                  have HBL : Below w.heap.size wr (((wr.drew.drewN (fnn .sub x xa)).drewN (fnn .sub xb xa)).drewN (fnn .quo (fres .sub x xa wr.drew) (fres .sub xb xa (wr.drew.drewN (fnn .sub x xa))))) := hK3.2
                  obtain ⟨wq, hwq⟩ : ∃ W, W = (((wr.drew.drewN (fnn .sub x xa)).drewN (fnn .sub xb xa)).drewN (fnn .quo (fres .sub x xa wr.drew) (fres .sub xb xa (wr.drew.drewN (fnn .sub x xa))))) := ⟨_, rfl⟩
                  have e0 : wq.heap = wr.heap := by rw [hwq]; rfl
                  rw [← hwq] at HBL ⊢
                  have HB3 : Hid (Below w.heap.size w wq ∧ wq.heap = wr.heap) := ⟨HBW.out.trans HBL, e0⟩
                  clear hwq hK1 hK2 hK3 hS HBL e0 cx0 cx1
                  have HRQ : wq.heap[w.heap.size]? = some (.cells #[.int .i64 0, .int .i64 0, .float .f64 0] 62) := by rw [HB3.out.2]; exact HRS.out
                  obtain ⟨q0, q1, q2, f0, f1, f2, ql⟩ := three_q HRQ
                  have cy0 : wq.cell? ⟨g2, p, none⟩ = some (.float .f64 ya) := by have := HYA.out; simp only [World.cell?, HB3.out.2] at this ⊢; exact this
                  have cy1 : wq.cell? ⟨g2, p1, none⟩ = some (.float .f64 yb) := by have := HYB.out; simp only [World.cell?, HB3.out.2] at this ⊢; exact this
                  clear HRQ
                  go_wp2_with (fail)
                  refine wp_region_holdsA (S := KA w.heap.size wq) (by kernel_rfl) (KA.of (Below.drew (Below.refl _ _))) (fun hS => ?_)
                  refine fl_takeA (i := 0) (d := 95) (v := .int .i64 p) rfl rfl rfl (by kernel_rfl) (by kernel_rfl) (by kernel_rfl) hS ?_ ?_
                  · intro w' hk; unfold KA at hk; go_simp
                  simp only [Act.put, List.setIfInBounds_toArray, List.set_cons_zero, List.set_cons_succ]
                  refine fl_takeA (i := 1) (d := 96) (v := .slice (some ⟨g2, 0, none⟩) n n) rfl rfl rfl (by kernel_rfl) (by kernel_rfl) (by kernel_rfl) hS ?_ ?_
                  · intro w' hk; unfold KA at hk; go_simp
                  simp only [Act.put, List.setIfInBounds_toArray, List.set_cons_zero, List.set_cons_succ]
                  refine fl_takeA (i := 2) (d := 97) (v := .int .i64 p) rfl rfl rfl (by kernel_rfl) (by kernel_rfl) (by kernel_rfl) hS ?_ ?_
                  · intro w' hk; unfold KA at hk; go_simp
                  simp only [Act.put, List.setIfInBounds_toArray, List.set_cons_zero, List.set_cons_succ]
                  refine fl_takeA (i := 3) (d := 98) (v := .pointer (some ⟨g2, p, none⟩)) rfl rfl rfl (by kernel_rfl) (by kernel_rfl) (by kernel_rfl) hS ?_ ?_
                  · intro w' hk; unfold KA at hk; go_simp
                  simp only [Act.put, List.setIfInBounds_toArray, List.set_cons_zero, List.set_cons_succ]
                  refine fl_takeA (i := 4) (d := 99) (v := .float .f64 ya) rfl rfl rfl (by kernel_rfl) (by kernel_rfl) (by kernel_rfl) hS ?_ ?_
                  · intro w' hk; unfold KA at hk; go_simp
                  simp only [Act.put, List.setIfInBounds_toArray, List.set_cons_zero, List.set_cons_succ]
                  refine fl_takeA (i := 5) (d := 100) (v := .slice (some ⟨g2, 0, none⟩) n n) rfl rfl rfl (by kernel_rfl) (by kernel_rfl) (by kernel_rfl) hS ?_ ?_
                  · intro w' hk; unfold KA at hk; go_simp
                  simp only [Act.put, List.setIfInBounds_toArray, List.set_cons_zero, List.set_cons_succ]
                  refine fl_takeA (i := 6) (d := 101) (v := .int .i64 p) rfl rfl rfl (by kernel_rfl) (by kernel_rfl) (by kernel_rfl) hS ?_ ?_
                  · intro w' hk; unfold KA at hk; go_simp
                  simp only [Act.put, List.setIfInBounds_toArray, List.set_cons_zero, List.set_cons_succ]
                  refine fl_takeA (i := 7) (d := 102) (v := .int .i64 p1) rfl rfl rfl (by kernel_rfl) (by kernel_rfl) (by kernel_rfl) hS ?_ ?_
                  · intro w' hk; unfold KA at hk; go_simp
                  simp only [Act.put, List.setIfInBounds_toArray, List.set_cons_zero, List.set_cons_succ]
                  refine fl_takeA (i := 8) (d := 103) (v := .pointer (some ⟨g2, p1, none⟩)) rfl rfl rfl (by kernel_rfl) (by kernel_rfl) (by kernel_rfl) hS ?_ ?_
                  · intro w' hk; unfold KA at hk; go_simp
                  simp only [Act.put, List.setIfInBounds_toArray, List.set_cons_zero, List.set_cons_succ]
                  refine fl_takeA (i := 9) (d := 104) (v := .float .f64 yb) rfl rfl rfl (by kernel_rfl) (by kernel_rfl) (by kernel_rfl) hS ?_ ?_
                  · intro w' hk; unfold KA at hk; go_simp
                  simp only [Act.put, List.setIfInBounds_toArray, List.set_cons_zero, List.set_cons_succ]
                  refine fl_takeA (i := 10) (d := 105) (v := .slice (some ⟨g2, 0, none⟩) n n) rfl rfl rfl (by kernel_rfl) (by kernel_rfl) (by kernel_rfl) hS ?_ ?_
                  · intro w' hk; unfold KA at hk; go_simp
                  simp only [Act.put, List.setIfInBounds_toArray, List.set_cons_zero, List.set_cons_succ]
                  refine fl_takeA (i := 11) (d := 106) (v := .int .i64 p) rfl rfl rfl (by kernel_rfl) (by kernel_rfl) (by kernel_rfl) hS ?_ ?_
                  · intro w' hk; unfold KA at hk; go_simp
                  simp only [Act.put, List.setIfInBounds_toArray, List.set_cons_zero, List.set_cons_succ]
                  refine fl_takeA (i := 12) (d := 107) (v := .pointer (some ⟨g2, p, none⟩)) rfl rfl rfl (by kernel_rfl) (by kernel_rfl) (by kernel_rfl) hS ?_ ?_
                  · intro w' hk; unfold KA at hk; go_simp
                  simp only [Act.put, List.setIfInBounds_toArray, List.set_cons_zero, List.set_cons_succ]
                  refine fl_takeA (i := 13) (d := 108) (v := .float .f64 ya) rfl rfl rfl (by kernel_rfl) (by kernel_rfl) (by kernel_rfl) hS ?_ ?_
                  · intro w' hk; unfold KA at hk; go_simp
                  simp only [Act.put, List.setIfInBounds_toArray, List.set_cons_zero, List.set_cons_succ]
                  refine fl_takeA (i := 15) (d := 110) (v := .float .f64 Q) rfl rfl rfl (by kernel_rfl) (by kernel_rfl) (by kernel_rfl) hS ?_ ?_
                  · intro w' hk; unfold KA at hk; go_simp
                  simp only [Act.put, List.setIfInBounds_toArray, List.set_cons_zero, List.set_cons_succ]
                  refine wpAnyH_all (rs := [14]) (by kernel_rfl) (by simp) ?_
                  intro iz hi
                  obtain rfl : iz = 14 := by simpa using hi
                  clear hi
                  refine op_val (d := 109) (v := .float .f64 (fres .sub yb ya wq.drew)) (w' := (wq.drew.drewN (fnn .sub yb ya))) rfl rfl rfl (by go_simp; try rfl) ?_
                  simp only [Act.put, List.setIfInBounds_toArray, List.set_cons_zero, List.set_cons_succ]
                  have hK1 : KA w.heap.size wq (wq.drew.drewN (fnn .sub yb ya)) := KA.of (below_drewN hS.2 _)
                  refine ⟨hK1, ?_⟩
                  refine wpAnyH_all (rs := [16]) (by kernel_rfl) (by simp) ?_
                  intro iz hi
                  obtain rfl : iz = 16 := by simpa using hi
                  clear hi
                  refine op_val (d := 111) (v := .float .f64 (fres .mul (fres .sub yb ya wq.drew) Q (wq.drew.drewN (fnn .sub yb ya)))) (w' := ((wq.drew.drewN (fnn .sub yb ya)).drewN (fnn .mul (fres .sub yb ya wq.drew) Q))) rfl rfl rfl (by go_simp; try rfl) ?_
                  simp only [Act.put, List.setIfInBounds_toArray, List.set_cons_zero, List.set_cons_succ]
                  have hK2 : KA w.heap.size wq ((wq.drew.drewN (fnn .sub yb ya)).drewN (fnn .mul (fres .sub yb ya wq.drew) Q)) := KA.of (below_drewN hK1.2 _)
                  refine ⟨hK2, ?_⟩
                  refine wpAnyH_all (rs := [17]) (by kernel_rfl) (by simp) ?_
                  intro iz hi
                  obtain rfl : iz = 17 := by simpa using hi
                  clear hi
                  refine op_val (d := 112) (v := .float .f64 (fres .add ya (fres .mul (fres .sub yb ya wq.drew) Q (wq.drew.drewN (fnn .sub yb ya))) ((wq.drew.drewN (fnn .sub yb ya)).drewN (fnn .mul (fres .sub yb ya wq.drew) Q)))) (w' := (((wq.drew.drewN (fnn .sub yb ya)).drewN (fnn .mul (fres .sub yb ya wq.drew) Q)).drewN (fnn .add ya (fres .mul (fres .sub yb ya wq.drew) Q (wq.drew.drewN (fnn .sub yb ya)))))) rfl rfl rfl (by go_simp; try rfl) ?_
                  simp only [Act.put, List.setIfInBounds_toArray, List.set_cons_zero, List.set_cons_succ]
                  have hK3 : KA w.heap.size wq (((wq.drew.drewN (fnn .sub yb ya)).drewN (fnn .mul (fres .sub yb ya wq.drew) Q)).drewN (fnn .add ya (fres .mul (fres .sub yb ya wq.drew) Q (wq.drew.drewN (fnn .sub yb ya))))) := KA.of (below_drewN hK2.2 _)
                  refine ⟨hK3, ?_⟩
                  refine wpAnyH_all (rs := [18]) (by kernel_rfl) (by simp) ?_
                  intro iz hi
                  obtain rfl : iz = 18 := by simpa using hi
                  clear hi
                  refine op_val (d := 113) (v := .agg #[.int .i64 0, .int .i64 p, .float .f64 (fres .add ya (fres .mul (fres .sub yb ya wq.drew) Q (wq.drew.drewN (fnn .sub yb ya))) ((wq.drew.drewN (fnn .sub yb ya)).drewN (fnn .mul (fres .sub yb ya wq.drew) Q)))]) (w' := (((wq.drew.drewN (fnn .sub yb ya)).drewN (fnn .mul (fres .sub yb ya wq.drew) Q)).drewN (fnn .add ya (fres .mul (fres .sub yb ya wq.drew) Q (wq.drew.drewN (fnn .sub yb ya)))))) rfl rfl rfl (by go_simp; try rfl) ?_
                  simp only [Act.put, List.setIfInBounds_toArray, List.set_cons_zero, List.set_cons_succ]
                  refine ⟨hK3, ?_⟩
                  refine wpAnyH_all (rs := [19]) (by kernel_rfl) (by simp) ?_
                  intro iz hi
                  obtain rfl : iz = 19 := by simpa using hi
                  clear hi
                  refine op_skipN (w' := ((((((wq.drew.drewN (fnn .sub yb ya)).drewN (fnn .mul (fres .sub yb ya wq.drew) Q)).drewN (fnn .add ya (fres .mul (fres .sub yb ya wq.drew) Q (wq.drew.drewN (fnn .sub yb ya))))).setCell ⟨w.heap.size, 0, none⟩ (.int .i64 0)).setCell ⟨w.heap.size, 1, none⟩ (.int .i64 p)).setCell ⟨w.heap.size, 2, none⟩ (.float .f64 (fres .add ya (fres .mul (fres .sub yb ya wq.drew) Q (wq.drew.drewN (fnn .sub yb ya))) ((wq.drew.drewN (fnn .sub yb ya)).drewN (fnn .mul (fres .sub yb ya wq.drew) Q)))))) rfl rfl (by go_simp; try rfl) ?_
                  have hK4 : KA w.heap.size wq ((((((wq.drew.drewN (fnn .sub yb ya)).drewN (fnn .mul (fres .sub yb ya wq.drew) Q)).drewN (fnn .add ya (fres .mul (fres .sub yb ya wq.drew) Q (wq.drew.drewN (fnn .sub yb ya))))).setCell ⟨w.heap.size, 0, none⟩ (.int .i64 0)).setCell ⟨w.heap.size, 1, none⟩ (.int .i64 p)).setCell ⟨w.heap.size, 2, none⟩ (.float .f64 (fres .add ya (fres .mul (fres .sub yb ya wq.drew) Q (wq.drew.drewN (fnn .sub yb ya))) ((wq.drew.drewN (fnn .sub yb ya)).drewN (fnn .mul (fres .sub yb ya wq.drew) Q))))) := KA.of (((hK3.2.setCell (p := ⟨w.heap.size, 0, none⟩) (Nat.le_refl _) _).setCell (p := ⟨w.heap.size, 1, none⟩) (Nat.le_refl _) _).setCell (p := ⟨w.heap.size, 2, none⟩) (Nat.le_refl _) _)
                  simp only [Act.put, List.setIfInBounds_toArray, List.set_cons_zero, List.set_cons_succ]
                  refine ⟨hK4, wpAnyH_done (by kernel_rfl) (NoPanic.normal ?_) _⟩
                  have HBZ : Hid (Below w.heap.size w ((((((wq.drew.drewN (fnn .sub yb ya)).drewN (fnn .mul (fres .sub yb ya wq.drew) Q)).drewN (fnn .add ya (fres .mul (fres .sub yb ya wq.drew) Q (wq.drew.drewN (fnn .sub yb ya))))).setCell ⟨w.heap.size, 0, none⟩ (.int .i64 0)).setCell ⟨w.heap.size, 1, none⟩ (.int .i64 p)).setCell ⟨w.heap.size, 2, none⟩ (.float .f64 (fres .add ya (fres .mul (fres .sub yb ya wq.drew) Q (wq.drew.drewN (fnn .sub yb ya))) ((wq.drew.drewN (fnn .sub yb ya)).drewN (fnn .mul (fres .sub yb ya wq.drew) Q)))))) := HB3.out.1.trans hK4.2
                  have HZ : Hid (∀ W1 W2 W3, fv (fres .add ya (fres .mul (fres .sub yb ya W1) Q W2) W3) = trW xs ys x) := fun W1 W2 W3 => by rw [fv_fres, fv_fres, fv_fres, HQ.out, HVW.out.2, trV, HYD.out.1, HYD.out.2.1, HYD.out.2.2.1, HYD.out.2.2.2]
                  clear hK1 hK2 hK3 hK4 hS
                  go_wp2
                  try simp only [Exit.inBlock, Exit.then]
                  refine bodyPost_ret (by simp [results, Try.results36, go_sem, q0, q1, q2, ql]; try rfl) rfl ⟨_, by rw [HVW.out.1, HC0.out.2.2.2.2], HZ.out _ _ _, ?_⟩
                  exact HBZ.out
                · refine op_val (d := 93) (v := .float .f64 (fres .sub xb xa wr.drew)) (w' := (wr.drew.drewN (fnn .sub xb xa))) rfl rfl rfl (by go_simp; try rfl) ?_
                  simp only [Act.put, List.setIfInBounds_toArray, List.set_cons_zero, List.set_cons_succ]
                  have hK1 : KA w.heap.size wr (wr.drew.drewN (fnn .sub xb xa)) := KA.of (below_drewN hS.2 _)
                  refine ⟨hK1, ?_⟩
                  refine wpAnyH_all (rs := [5]) (by kernel_rfl) (by simp) ?_
                  intro iz hi
                  obtain rfl : iz = 5 := by simpa using hi
                  clear hi
                  refine op_val (d := 83) (v := .float .f64 (fres .sub x xa (wr.drew.drewN (fnn .sub xb xa)))) (w' := ((wr.drew.drewN (fnn .sub xb xa)).drewN (fnn .sub x xa))) rfl rfl rfl (by go_simp; try rfl) ?_
                  simp only [Act.put, List.setIfInBounds_toArray, List.set_cons_zero, List.set_cons_succ]
                  have hK2 : KA w.heap.size wr ((wr.drew.drewN (fnn .sub xb xa)).drewN (fnn .sub x xa)) := KA.of (below_drewN hK1.2 _)
                  refine ⟨hK2, ?_⟩
                  refine wpAnyH_all (rs := [16]) (by kernel_rfl) (by simp) ?_
                  intro iz hi
                  obtain rfl : iz = 16 := by simpa using hi
                  clear hi
                  refine op_val (d := 94) (v := .float .f64 (fres .quo (fres .sub x xa (wr.drew.drewN (fnn .sub xb xa))) (fres .sub xb xa wr.drew) ((wr.drew.drewN (fnn .sub xb xa)).drewN (fnn .sub x xa)))) (w' := (((wr.drew.drewN (fnn .sub xb xa)).drewN (fnn .sub x xa)).drewN (fnn .quo (fres .sub x xa (wr.drew.drewN (fnn .sub xb xa))) (fres .sub xb xa wr.drew)))) rfl rfl rfl (by go_simp; try rfl) ?_
                  simp only [Act.put, List.setIfInBounds_toArray, List.set_cons_zero, List.set_cons_succ]
                  have hK3 : KA w.heap.size wr (((wr.drew.drewN (fnn .sub xb xa)).drewN (fnn .sub x xa)).drewN (fnn .quo (fres .sub x xa (wr.drew.drewN (fnn .sub xb xa))) (fres .sub xb xa wr.drew))) := KA.of (below_drewN hK2.2 _)
                  refine ⟨hK3, ?_⟩
                  refine wpAnyH_all (rs := [17]) (by kernel_rfl) (by simp) ?_
                  intro iz hi
                  obtain rfl : iz = 17 := by simpa using hi
                  clear hi
                  refine op_val (d := 10) (v := .float .f64 (fres .quo (fres .sub x xa (wr.drew.drewN (fnn .sub xb xa))) (fres .sub xb xa wr.drew) ((wr.drew.drewN (fnn .sub xb xa)).drewN (fnn .sub x xa)))) (w' := (((wr.drew.drewN (fnn .sub xb xa)).drewN (fnn .sub x xa)).drewN (fnn .quo (fres .sub x xa (wr.drew.drewN (fnn .sub xb xa))) (fres .sub xb xa wr.drew)))) rfl rfl rfl (by go_simp; try rfl) ?_
                  simp only [Act.put, List.setIfInBounds_toArray, List.set_cons_zero, List.set_cons_succ]
                  refine ⟨hK3, wpAnyH_done (by kernel_rfl) (NoPanic.normal ?_) _⟩
                  obtain ⟨Q, hQ⟩ : ∃ Q, Q = fres .quo (fres .sub x xa (wr.drew.drewN (fnn .sub xb xa))) (fres .sub xb xa wr.drew) ((wr.drew.drewN (fnn .sub xb xa)).drewN (fnn .sub x xa)) := ⟨_, rfl⟩
                  have HQ : Hid (fv Q = fop .quo (fop .sub (fv x) (fv xa)) (fop .sub (fv xb) (fv xa))) := by unfold Hid; rw [hQ, fv_fres, fv_fres, fv_fres]
                  rw [← hQ]
                  clear hQ
                  have HBL : Below w.heap.size wr (((wr.drew.drewN (fnn .sub xb xa)).drewN (fnn .sub x xa)).drewN (fnn .quo (fres .sub x xa (wr.drew.drewN (fnn .sub xb xa))) (fres .sub xb xa wr.drew))) := hK3.2
                  obtain ⟨wq, hwq⟩ : ∃ W, W = (((wr.drew.drewN (fnn .sub xb xa)).drewN (fnn .sub x xa)).drewN (fnn .quo (fres .sub x xa (wr.drew.drewN (fnn .sub xb xa))) (fres .sub xb xa wr.drew))) := ⟨_, rfl⟩
                  have e0 : wq.heap = wr.heap := by rw [hwq]; rfl
                  rw [← hwq] at HBL ⊢
                  have HB3 : Hid (Below w.heap.size w wq ∧ wq.heap = wr.heap) := ⟨HBW.out.trans HBL, e0⟩
                  clear hwq hK1 hK2 hK3 hS HBL e0 cx0 cx1
                  have HRQ : wq.heap[w.heap.size]? = some (.cells #[.int .i64 0, .int .i64 0, .float .f64 0] 62) := by rw [HB3.out.2]; exact HRS.out
                  obtain ⟨q0, q1, q2, f0, f1, f2, ql⟩ := three_q HRQ
                  have cy0 : wq.cell? ⟨g2, p, none⟩ = some (.float .f64 ya) := by have := HYA.out; simp only [World.cell?, HB3.out.2] at this ⊢; exact this
                  have cy1 : wq.cell? ⟨g2, p1, none⟩ = some (.float .f64 yb) := by have := HYB.out; simp only [World.cell?, HB3.out.2] at this ⊢; exact this
                  clear HRQ
                  go_wp2_with (fail)
                  refine wp_region_holdsA (S := KA w.heap.size wq) (by kernel_rfl) (KA.of (Below.drew (Below.refl _ _))) (fun hS => ?_)
                  refine fl_takeA (i := 0) (d := 95) (v := .int .i64 p) rfl rfl rfl (by kernel_rfl) (by kernel_rfl) (by kernel_rfl) hS ?_ ?_
                  · intro w' hk; unfold KA at hk; go_simp
                  simp only [Act.put, List.setIfInBounds_toArray, List.set_cons_zero, List.set_cons_succ]
                  refine fl_takeA (i := 1) (d := 96) (v := .slice (some ⟨g2, 0, none⟩) n n) rfl rfl rfl (by kernel_rfl) (by kernel_rfl) (by kernel_rfl) hS ?_ ?_
                  · intro w' hk; unfold KA at hk; go_simp
                  simp only [Act.put, List.setIfInBounds_toArray, List.set_cons_zero, List.set_cons_succ]
                  refine fl_takeA (i := 2) (d := 97) (v := .int .i64 p) rfl rfl rfl (by kernel_rfl) (by kernel_rfl) (by kernel_rfl) hS ?_ ?_
                  · intro w' hk; unfold KA at hk; go_simp
                  simp only [Act.put, List.setIfInBounds_toArray, List.set_cons_zero, List.set_cons_succ]
                  refine fl_takeA (i := 3) (d := 98) (v := .pointer (some ⟨g2, p, none⟩)) rfl rfl rfl (by kernel_rfl) (by kernel_rfl) (by kernel_rfl) hS ?_ ?_
                  · intro w' hk; unfold KA at hk; go_simp
                  simp only [Act.put, List.setIfInBounds_toArray, List.set_cons_zero, List.set_cons_succ]
                  refine fl_takeA (i := 4) (d := 99) (v := .float .f64 ya) rfl rfl rfl (by kernel_rfl) (by kernel_rfl) (by kernel_rfl) hS ?_ ?_
                  · intro w' hk; unfold KA at hk; go_simp
                  simp only [Act.put, List.setIfInBounds_toArray, List.set_cons_zero, List.set_cons_succ]
                  refine fl_takeA (i := 5) (d := 100) (v := .slice (some ⟨g2, 0, none⟩) n n) rfl rfl rfl (by kernel_rfl) (by kernel_rfl) (by kernel_rfl) hS ?_ ?_
                  · intro w' hk; unfold KA at hk; go_simp
                  simp only [Act.put, List.setIfInBounds_toArray, List.set_cons_zero, List.set_cons_succ]
                  refine fl_takeA (i := 6) (d := 101) (v := .int .i64 p) rfl rfl rfl (by kernel_rfl) (by kernel_rfl) (by kernel_rfl) hS ?_ ?_
                  · intro w' hk; unfold KA at hk; go_simp
                  simp only [Act.put, List.setIfInBounds_toArray, List.set_cons_zero, List.set_cons_succ]
                  refine fl_takeA (i := 7) (d := 102) (v := .int .i64 p1) rfl rfl rfl (by kernel_rfl) (by kernel_rfl) (by kernel_rfl) hS ?_ ?_
                  · intro w' hk; unfold KA at hk; go_simp
                  simp only [Act.put, List.setIfInBounds_toArray, List.set_cons_zero, List.set_cons_succ]
                  refine fl_takeA (i := 8) (d := 103) (v := .pointer (some ⟨g2, p1, none⟩)) rfl rfl rfl (by kernel_rfl) (by kernel_rfl) (by kernel_rfl) hS ?_ ?_
                  · intro w' hk; unfold KA at hk; go_simp
                  simp only [Act.put, List.setIfInBounds_toArray, List.set_cons_zero, List.set_cons_succ]
                  refine fl_takeA (i := 9) (d := 104) (v := .float .f64 yb) rfl rfl rfl (by kernel_rfl) (by kernel_rfl) (by kernel_rfl) hS ?_ ?_
                  · intro w' hk; unfold KA at hk; go_simp
                  simp only [Act.put, List.setIfInBounds_toArray, List.set_cons_zero, List.set_cons_succ]
                  refine fl_takeA (i := 10) (d := 105) (v := .slice (some ⟨g2, 0, none⟩) n n) rfl rfl rfl (by kernel_rfl) (by kernel_rfl) (by kernel_rfl) hS ?_ ?_
                  · intro w' hk; unfold KA at hk; go_simp
                  simp only [Act.put, List.setIfInBounds_toArray, List.set_cons_zero, List.set_cons_succ]
                  refine fl_takeA (i := 11) (d := 106) (v := .int .i64 p) rfl rfl rfl (by kernel_rfl) (by kernel_rfl) (by kernel_rfl) hS ?_ ?_
                  · intro w' hk; unfold KA at hk; go_simp
                  simp only [Act.put, List.setIfInBounds_toArray, List.set_cons_zero, List.set_cons_succ]
                  refine fl_takeA (i := 12) (d := 107) (v := .pointer (some ⟨g2, p, none⟩)) rfl rfl rfl (by kernel_rfl) (by kernel_rfl) (by kernel_rfl) hS ?_ ?_
                  · intro w' hk; unfold KA at hk; go_simp
                  simp only [Act.put, List.setIfInBounds_toArray, List.set_cons_zero, List.set_cons_succ]
                  refine fl_takeA (i := 13) (d := 108) (v := .float .f64 ya) rfl rfl rfl (by kernel_rfl) (by kernel_rfl) (by kernel_rfl) hS ?_ ?_
                  · intro w' hk; unfold KA at hk; go_simp
                  simp only [Act.put, List.setIfInBounds_toArray, List.set_cons_zero, List.set_cons_succ]
                  refine fl_takeA (i := 15) (d := 110) (v := .float .f64 Q) rfl rfl rfl (by kernel_rfl) (by kernel_rfl) (by kernel_rfl) hS ?_ ?_
                  · intro w' hk; unfold KA at hk; go_simp
                  simp only [Act.put, List.setIfInBounds_toArray, List.set_cons_zero, List.set_cons_succ]
                  refine wpAnyH_all (rs := [14]) (by kernel_rfl) (by simp) ?_
                  intro iz hi
                  obtain rfl : iz = 14 := by simpa using hi
                  clear hi
                  refine op_val (d := 109) (v := .float .f64 (fres .sub yb ya wq.drew)) (w' := (wq.drew.drewN (fnn .sub yb ya))) rfl rfl rfl (by go_simp; try rfl) ?_
                  simp only [Act.put, List.setIfInBounds_toArray, List.set_cons_zero, List.set_cons_succ]
                  have hK1 : KA w.heap.size wq (wq.drew.drewN (fnn .sub yb ya)) := KA.of (below_drewN hS.2 _)
                  refine ⟨hK1, ?_⟩
                  refine wpAnyH_all (rs := [16]) (by kernel_rfl) (by simp) ?_
                  intro iz hi
                  obtain rfl : iz = 16 := by simpa using hi
                  clear hi
                  refine op_val (d := 111) (v := .float .f64 (fres .mul (fres .sub yb ya wq.drew) Q (wq.drew.drewN (fnn .sub yb ya)))) (w' := ((wq.drew.drewN (fnn .sub yb ya)).drewN (fnn .mul (fres .sub yb ya wq.drew) Q))) rfl rfl rfl (by go_simp; try rfl) ?_
                  simp only [Act.put, List.setIfInBounds_toArray, List.set_cons_zero, List.set_cons_succ]
                  have hK2 : KA w.heap.size wq ((wq.drew.drewN (fnn .sub yb ya)).drewN (fnn .mul (fres .sub yb ya wq.drew) Q)) := KA.of (below_drewN hK1.2 _)
                  refine ⟨hK2, ?_⟩
                  refine wpAnyH_all (rs := [17]) (by kernel_rfl) (by simp) ?_
                  intro iz hi
                  obtain rfl : iz = 17 := by simpa using hi
                  clear hi
                  refine op_val (d := 112) (v := .float .f64 (fres .add ya (fres .mul (fres .sub yb ya wq.drew) Q (wq.drew.drewN (fnn .sub yb ya))) ((wq.drew.drewN (fnn .sub yb ya)).drewN (fnn .mul (fres .sub yb ya wq.drew) Q)))) (w' := (((wq.drew.drewN (fnn .sub yb ya)).drewN (fnn .mul (fres .sub yb ya wq.drew) Q)).drewN (fnn .add ya (fres .mul (fres .sub yb ya wq.drew) Q (wq.drew.drewN (fnn .sub yb ya)))))) rfl rfl rfl (by go_simp; try rfl) ?_
                  simp only [Act.put, List.setIfInBounds_toArray, List.set_cons_zero, List.set_cons_succ]
                  have hK3 : KA w.heap.size wq (((wq.drew.drewN (fnn .sub yb ya)).drewN (fnn .mul (fres .sub yb ya wq.drew) Q)).drewN (fnn .add ya (fres .mul (fres .sub yb ya wq.drew) Q (wq.drew.drewN (fnn .sub yb ya))))) := KA.of (below_drewN hK2.2 _)
                  refine ⟨hK3, ?_⟩
                  refine wpAnyH_all (rs := [18]) (by kernel_rfl) (by simp) ?_
                  intro iz hi
                  obtain rfl : iz = 18 := by simpa using hi
                  clear hi
                  refine op_val (d := 113) (v := .agg #[.int .i64 0, .int .i64 p, .float .f64 (fres .add ya (fres .mul (fres .sub yb ya wq.drew) Q (wq.drew.drewN (fnn .sub yb ya))) ((wq.drew.drewN (fnn .sub yb ya)).drewN (fnn .mul (fres .sub yb ya wq.drew) Q)))]) (w' := (((wq.drew.drewN (fnn .sub yb ya)).drewN (fnn .mul (fres .sub yb ya wq.drew) Q)).drewN (fnn .add ya (fres .mul (fres .sub yb ya wq.drew) Q (wq.drew.drewN (fnn .sub yb ya)))))) rfl rfl rfl (by go_simp; try rfl) ?_
                  simp only [Act.put, List.setIfInBounds_toArray, List.set_cons_zero, List.set_cons_succ]
                  refine ⟨hK3, ?_⟩
                  refine wpAnyH_all (rs := [19]) (by kernel_rfl) (by simp) ?_
                  intro iz hi
                  obtain rfl : iz = 19 := by simpa using hi
                  clear hi
                  refine op_skipN (w' := ((((((wq.drew.drewN (fnn .sub yb ya)).drewN (fnn .mul (fres .sub yb ya wq.drew) Q)).drewN (fnn .add ya (fres .mul (fres .sub yb ya wq.drew) Q (wq.drew.drewN (fnn .sub yb ya))))).setCell ⟨w.heap.size, 0, none⟩ (.int .i64 0)).setCell ⟨w.heap.size, 1, none⟩ (.int .i64 p)).setCell ⟨w.heap.size, 2, none⟩ (.float .f64 (fres .add ya (fres .mul (fres .sub yb ya wq.drew) Q (wq.drew.drewN (fnn .sub yb ya))) ((wq.drew.drewN (fnn .sub yb ya)).drewN (fnn .mul (fres .sub yb ya wq.drew) Q)))))) rfl rfl (by go_simp; try rfl) ?_
                  have hK4 : KA w.heap.size wq ((((((wq.drew.drewN (fnn .sub yb ya)).drewN (fnn .mul (fres .sub yb ya wq.drew) Q)).drewN (fnn .add ya (fres .mul (fres .sub yb ya wq.drew) Q (wq.drew.drewN (fnn .sub yb ya))))).setCell ⟨w.heap.size, 0, none⟩ (.int .i64 0)).setCell ⟨w.heap.size, 1, none⟩ (.int .i64 p)).setCell ⟨w.heap.size, 2, none⟩ (.float .f64 (fres .add ya (fres .mul (fres .sub yb ya wq.drew) Q (wq.drew.drewN (fnn .sub yb ya))) ((wq.drew.drewN (fnn .sub yb ya)).drewN (fnn .mul (fres .sub yb ya wq.drew) Q))))) := KA.of (((hK3.2.setCell (p := ⟨w.heap.size, 0, none⟩) (Nat.le_refl _) _).setCell (p := ⟨w.heap.size, 1, none⟩) (Nat.le_refl _) _).setCell (p := ⟨w.heap.size, 2, none⟩) (Nat.le_refl _) _)
                  simp only [Act.put, List.setIfInBounds_toArray, List.set_cons_zero, List.set_cons_succ]
                  refine ⟨hK4, wpAnyH_done (by kernel_rfl) (NoPanic.normal ?_) _⟩
                  have HBZ : Hid (Below w.heap.size w ((((((wq.drew.drewN (fnn .sub yb ya)).drewN (fnn .mul (fres .sub yb ya wq.drew) Q)).drewN (fnn .add ya (fres .mul (fres .sub yb ya wq.drew) Q (wq.drew.drewN (fnn .sub yb ya))))).setCell ⟨w.heap.size, 0, none⟩ (.int .i64 0)).setCell ⟨w.heap.size, 1, none⟩ (.int .i64 p)).setCell ⟨w.heap.size, 2, none⟩ (.float .f64 (fres .add ya (fres .mul (fres .sub yb ya wq.drew) Q (wq.drew.drewN (fnn .sub yb ya))) ((wq.drew.drewN (fnn .sub yb ya)).drewN (fnn .mul (fres .sub yb ya wq.drew) Q)))))) := HB3.out.1.trans hK4.2
                  have HZ : Hid (∀ W1 W2 W3, fv (fres .add ya (fres .mul (fres .sub yb ya W1) Q W2) W3) = trW xs ys x) := fun W1 W2 W3 => by rw [fv_fres, fv_fres, fv_fres, HQ.out, HVW.out.2, trV, HYD.out.1, HYD.out.2.1, HYD.out.2.2.1, HYD.out.2.2.2]
                  clear hK1 hK2 hK3 hK4 hS
                  go_wp2
                  try simp only [Exit.inBlock, Exit.then]
                  refine bodyPost_ret (by simp [results, Try.results36, go_sem, q0, q1, q2, ql]; try rfl) rfl ⟨_, by rw [HVW.out.1, HC0.out.2.2.2.2], HZ.out _ _ _, ?_⟩
                  exact HBZ.out
            · have HE : Hid (trG xs x (xs.length - 2) = p) := trG_is (.inl (by omega)) _ (by rw [← HC0.out.2.2.2.1]; omega) (by rw [← HC0.out.2.2.2.1]; exact hR.out)
              clear hR
              go_wp2_with (fail)
              clear hp0
              obtain ⟨g, o, xa, ha, hgx, hzx, cx0⟩ := rf_at HX.out.1 (show p < n by omega)
              injection ha with ha
              injection ha with ha1 ha2
              subst ha1 ha2
              obtain ⟨g, o, xb, ha, hgx', hzx', cx1⟩ := rf_at HX.out.1 (show p + 1 < n by omega)
              injection ha with ha
              injection ha with ha1 ha2
              subst ha1 ha2
              obtain ⟨g, o, ya, ha, hgy, hzy, cy0⟩ := rf_at HX.out.2 (show p < n by omega)
              injection ha with ha
              injection ha with ha1 ha2
              subst ha1 ha2
              obtain ⟨g, o, yb, ha, hgy', hzy', cy1⟩ := rf_at HX.out.2 (show p + 1 < n by omega)
              injection ha with ha
              injection ha with ha1 ha2
              subst ha1 ha2
              obtain ⟨p1, hp1⟩ : ∃ p1, p1 = p + 1 := ⟨_, rfl⟩
              rw [Nat.zero_add, ← hp1] at cx1 cy1
              rw [Nat.zero_add] at cx0 cy0
              have HVW : Hid (trN xs ys x = (p : Int) ∧ trW xs ys x = trV xs ys x p) := by
                refine ⟨?_, ?_⟩
                · rw [trN, HC0.out.1, if_pos rfl, HE.out]
                · rw [trW, HC0.out.1, if_pos rfl, HE.out]
              have HYD : Hid (ys.getD p 0 = ya ∧ ys.getD (p + 1) 0 = yb ∧ xs.getD p 0 = xa ∧ xs.getD (p + 1) 0 = xb) := ⟨getD_at hzy, getD_at hzy', getD_at hzx, getD_at hzx'⟩
              have HYA : Hid (wr.cell? ⟨g2, p, none⟩ = some (.float .f64 ya)) := (HBW.out.cell (p := ⟨g2, p, none⟩) hgy).trans cy0
              have HYB : Hid (wr.cell? ⟨g2, p1, none⟩ = some (.float .f64 yb)) := (HBW.out.cell (p := ⟨g2, p1, none⟩) hgy).trans cy1
              have cz0 := (HBW.out.cell (p := ⟨g1, p, none⟩) hgx).trans cx0
              have cz1 := (HBW.out.cell (p := ⟨g1, p1, none⟩) hgx).trans cx1
              clear cx0 cx1 cy0 cy1
              have cx0 := cz0
              have cx1 := cz1
              have e9 : IntKind.i64.wrap ((p : Int) + 1) = (p1 : Int) := by rw [IntKind.wrap_i64]; omega
              have z0 : (0 : Int) ≤ (p : Int) := by omega
              have z1 : (0 : Int) ≤ (p1 : Int) := by omega
              have z2 : (p : Int) < (n : Int) := by omega
              have z3 : (p1 : Int) < (n : Int) := by omega
              clear cz0 cz1 hzx hzx' hzy hzy' hp1 hgx' hgy' HE
              refine wp_region_holdsA (S := KA w.heap.size wr) (by kernel_rfl) (KA.of (Below.drew (Below.refl _ _))) (fun hS => ?_)
              refine fl_takeA (i := 0) (d := 78) (v := .float .f64 x) rfl rfl rfl (by kernel_rfl) (by kernel_rfl) (by kernel_rfl) hS ?_ ?_
              · intro w' hk; unfold KA at hk; go_simp
              simp only [Act.put, List.setIfInBounds_toArray, List.set_cons_zero, List.set_cons_succ]
              refine fl_takeA (i := 1) (d := 79) (v := .slice (some ⟨g1, 0, none⟩) n n) rfl rfl rfl (by kernel_rfl) (by kernel_rfl) (by kernel_rfl) hS ?_ ?_
              · intro w' hk; unfold KA at hk; go_simp
              simp only [Act.put, List.setIfInBounds_toArray, List.set_cons_zero, List.set_cons_succ]
              refine fl_takeA (i := 2) (d := 80) (v := .int .i64 p) rfl rfl rfl (by kernel_rfl) (by kernel_rfl) (by kernel_rfl) hS ?_ ?_
              · intro w' hk; unfold KA at hk; go_simp
              simp only [Act.put, List.setIfInBounds_toArray, List.set_cons_zero, List.set_cons_succ]
              refine fl_takeA (i := 3) (d := 81) (v := .pointer (some ⟨g1, p, none⟩)) rfl rfl rfl (by kernel_rfl) (by kernel_rfl) (by kernel_rfl) hS ?_ ?_
              · intro w' hk; unfold KA at hk; go_simp
              simp only [Act.put, List.setIfInBounds_toArray, List.set_cons_zero, List.set_cons_succ]
              refine fl_takeA (i := 4) (d := 82) (v := .float .f64 xa) rfl rfl rfl (by kernel_rfl) (by kernel_rfl) (by kernel_rfl) hS ?_ ?_
              · intro w' hk; unfold KA at hk; go_simp
              simp only [Act.put, List.setIfInBounds_toArray, List.set_cons_zero, List.set_cons_succ]
              refine fl_takeA (i := 6) (d := 84) (v := .slice (some ⟨g1, 0, none⟩) n n) rfl rfl rfl (by kernel_rfl) (by kernel_rfl) (by kernel_rfl) hS ?_ ?_
              · intro w' hk; unfold KA at hk; go_simp
              simp only [Act.put, List.setIfInBounds_toArray, List.set_cons_zero, List.set_cons_succ]
              refine fl_takeA (i := 7) (d := 85) (v := .int .i64 p) rfl rfl rfl (by kernel_rfl) (by kernel_rfl) (by kernel_rfl) hS ?_ ?_
              · intro w' hk; unfold KA at hk; go_simp
              simp only [Act.put, List.setIfInBounds_toArray, List.set_cons_zero, List.set_cons_succ]
              refine fl_takeA (i := 8) (d := 86) (v := .int .i64 p1) rfl rfl rfl (by kernel_rfl) (by kernel_rfl) (by kernel_rfl) hS ?_ ?_
              · intro w' hk; unfold KA at hk; go_simp
              simp only [Act.put, List.setIfInBounds_toArray, List.set_cons_zero, List.set_cons_succ]
              refine fl_takeA (i := 9) (d := 87) (v := .pointer (some ⟨g1, p1, none⟩)) rfl rfl rfl (by kernel_rfl) (by kernel_rfl) (by kernel_rfl) hS ?_ ?_
              · intro w' hk; unfold KA at hk; go_simp
              simp only [Act.put, List.setIfInBounds_toArray, List.set_cons_zero, List.set_cons_succ]
              refine fl_takeA (i := 10) (d := 88) (v := .float .f64 xb) rfl rfl rfl (by kernel_rfl) (by kernel_rfl) (by kernel_rfl) hS ?_ ?_
              · intro w' hk; unfold KA at hk; go_simp
              simp only [Act.put, List.setIfInBounds_toArray, List.set_cons_zero, List.set_cons_succ]
              refine fl_takeA (i := 11) (d := 89) (v := .slice (some ⟨g1, 0, none⟩) n n) rfl rfl rfl (by kernel_rfl) (by kernel_rfl) (by kernel_rfl) hS ?_ ?_
              · intro w' hk; unfold KA at hk; go_simp
              simp only [Act.put, List.setIfInBounds_toArray, List.set_cons_zero, List.set_cons_succ]
              refine fl_takeA (i := 12) (d := 90) (v := .int .i64 p) rfl rfl rfl (by kernel_rfl) (by kernel_rfl) (by kernel_rfl) hS ?_ ?_
              · intro w' hk; unfold KA at hk; go_simp
              simp only [Act.put, List.setIfInBounds_toArray, List.set_cons_zero, List.set_cons_succ]
              refine fl_takeA (i := 13) (d := 91) (v := .pointer (some ⟨g1, p, none⟩)) rfl rfl rfl (by kernel_rfl) (by kernel_rfl) (by kernel_rfl) hS ?_ ?_
              · intro w' hk; unfold KA at hk; go_simp
              simp only [Act.put, List.setIfInBounds_toArray, List.set_cons_zero, List.set_cons_succ]
              refine fl_takeA (i := 14) (d := 92) (v := .float .f64 xa) rfl rfl rfl (by kernel_rfl) (by kernel_rfl) (by kernel_rfl) hS ?_ ?_
              · intro w' hk; unfold KA at hk; go_simp
              simp only [Act.put, List.setIfInBounds_toArray, List.set_cons_zero, List.set_cons_succ]
              refine wpAnyH_all (rs := [5, 15]) (by kernel_rfl) (by simp) ?_
              intro iz hi
              have hi : iz = 5 ∨ iz = 15 := by simpa using hi
              rcases hi with rfl | rfl
              · refine op_val (d := 83) (v := .float .f64 (fres .sub x xa wr.drew)) (w' := (wr.drew.drewN (fnn .sub x xa))) rfl rfl rfl (by go_simp; try rfl) ?_
                simp only [Act.put, List.setIfInBounds_toArray, List.set_cons_zero, List.set_cons_succ]
                have hK1 : KA w.heap.size wr (wr.drew.drewN (fnn .sub x xa)) := KA.of (below_drewN hS.2 _)
                refine ⟨hK1, ?_⟩
                refine wpAnyH_all (rs := [15]) (by kernel_rfl) (by simp) ?_
                intro iz hi
                obtain rfl : iz = 15 := by simpa using hi
                clear hi
                refine op_val (d := 93) (v := .float .f64 (fres .sub xb xa (wr.drew.drewN (fnn .sub x xa)))) (w' := ((wr.drew.drewN (fnn .sub x xa)).drewN (fnn .sub xb xa))) rfl rfl rfl (by go_simp; try rfl) ?_
                simp only [Act.put, List.setIfInBounds_toArray, List.set_cons_zero, List.set_cons_succ]
                have hK2 : KA w.heap.size wr ((wr.drew.drewN (fnn .sub x xa)).drewN (fnn .sub xb xa)) := KA.of (below_drewN hK1.2 _)
                refine ⟨hK2, ?_⟩
                refine wpAnyH_all (rs := [16]) (by kernel_rfl) (by simp) ?_
                intro iz hi
                obtain rfl : iz = 16 := by simpa using hi
                clear hi
                refine op_val (d := 94) (v := .float .f64 (fres .quo (fres .sub x xa wr.drew) (fres .sub xb xa (wr.drew.drewN (fnn .sub x xa))) ((wr.drew.drewN (fnn .sub x xa)).drewN (fnn .sub xb xa)))) (w' := (((wr.drew.drewN (fnn .sub x xa)).drewN (fnn .sub xb xa)).drewN (fnn .quo (fres .sub x xa wr.drew) (fres .sub xb xa (wr.drew.drewN (fnn .sub x xa)))))) rfl rfl rfl (by go_simp; try rfl) ?_
                simp only [Act.put, List.setIfInBounds_toArray, List.set_cons_zero, List.set_cons_succ]
                have hK3 : KA w.heap.size wr (((wr.drew.drewN (fnn .sub x xa)).drewN (fnn .sub xb xa)).drewN (fnn .quo (fres .sub x xa wr.drew) (fres .sub xb xa (wr.drew.drewN (fnn .sub x xa))))) := KA.of (below_drewN hK2.2 _)
                refine ⟨hK3, ?_⟩
                refine wpAnyH_all (rs := [17]) (by kernel_rfl) (by simp) ?_
                intro iz hi
                obtain rfl : iz = 17 := by simpa using hi
                clear hi
                refine op_val (d := 10) (v := .float .f64 (fres .quo (fres .sub x xa wr.drew) (fres .sub xb xa (wr.drew.drewN (fnn .sub x xa))) ((wr.drew.drewN (fnn .sub x xa)).drewN (fnn .sub xb xa)))) (w' := (((wr.drew.drewN (fnn .sub x xa)).drewN (fnn .sub xb xa)).drewN (fnn .quo (fres .sub x xa wr.drew) (fres .sub xb xa (wr.drew.drewN (fnn .sub x xa)))))) rfl rfl rfl (by go_simp; try rfl) ?_
                simp only [Act.put, List.setIfInBounds_toArray, List.set_cons_zero, List.set_cons_succ]
                refine ⟨hK3, wpAnyH_done (by kernel_rfl) (NoPanic.normal ?_) _⟩
                obtain ⟨Q, hQ⟩ : ∃ Q, Q = fres .quo (fres .sub x xa wr.drew) (fres .sub xb xa (wr.drew.drewN (fnn .sub x xa))) ((wr.drew.drewN (fnn .sub x xa)).drewN (fnn .sub xb xa)) := ⟨_, rfl⟩
                have HQ : Hid (fv Q = fop .quo (fop .sub (fv x) (fv xa)) (fop .sub (fv xb) (fv xa))) := by unfold Hid; rw [hQ, fv_fres, fv_fres, fv_fres]
                rw [← hQ]
                clear hQ
                have HBL : Below w.heap.size wr (((wr.drew.drewN (fnn .sub x xa)).drewN (fnn .sub xb xa)).drewN (fnn .quo (fres .sub x xa wr.drew) (fres .sub xb xa (wr.drew.drewN (fnn .sub x xa))))) := hK3.2
                obtain ⟨wq, hwq⟩ : ∃ W, W = (((wr.drew.drewN (fnn .sub x xa)).drewN (fnn .sub xb xa)).drewN (fnn .quo (fres .sub x xa wr.drew) (fres .sub xb xa (wr.drew.drewN (fnn .sub x xa))))) := ⟨_, rfl⟩
                have e0 : wq.heap = wr.heap := by rw [hwq]; rfl
                rw [← hwq] at HBL ⊢
                have HB3 : Hid (Below w.heap.size w wq ∧ wq.heap = wr.heap) := ⟨HBW.out.trans HBL, e0⟩
                clear hwq hK1 hK2 hK3 hS HBL e0 cx0 cx1
                have HRQ : wq.heap[w.heap.size]? = some (.cells #[.int .i64 0, .int .i64 0, .float .f64 0] 62) := by rw [HB3.out.2]; exact HRS.out
                obtain ⟨q0, q1, q2, f0, f1, f2, ql⟩ := three_q HRQ
                have cy0 : wq.cell? ⟨g2, p, none⟩ = some (.float .f64 ya) := by have := HYA.out; simp only [World.cell?, HB3.out.2] at this ⊢; exact this
                have cy1 : wq.cell? ⟨g2, p1, none⟩ = some (.float .f64 yb) := by have := HYB.out; simp only [World.cell?, HB3.out.2] at this ⊢; exact this
                clear HRQ
                go_wp2_with (fail)
                refine wp_region_holdsA (S := KA w.heap.size wq) (by kernel_rfl) (KA.of (Below.drew (Below.refl _ _))) (fun hS => ?_)
                refine fl_takeA (i := 0) (d := 95) (v := .int .i64 p) rfl rfl rfl (by kernel_rfl) (by kernel_rfl) (by kernel_rfl) hS ?_ ?_
                · intro w' hk; unfold KA at hk; go_simp
                simp only [Act.put, List.setIfInBounds_toArray, List.set_cons_zero, List.set_cons_succ]
                refine fl_takeA (i := 1) (d := 96) (v := .slice (some ⟨g2, 0, none⟩) n n) rfl rfl rfl (by kernel_rfl) (by kernel_rfl) (by kernel_rfl) hS ?_ ?_
                · intro w' hk; unfold KA at hk; go_simp
                simp only [Act.put, List.setIfInBounds_toArray, List.set_cons_zero, List.set_cons_succ]
                refine fl_takeA (i := 2) (d := 97) (v := .int .i64 p) rfl rfl rfl (by kernel_rfl) (by kernel_rfl) (by kernel_rfl) hS ?_ ?_
                · intro w' hk; unfold KA at hk; go_simp
                simp only [Act.put, List.setIfInBounds_toArray, List.set_cons_zero, List.set_cons_succ]
                refine fl_takeA (i := 3) (d := 98) (v := .pointer (some ⟨g2, p, none⟩)) rfl rfl rfl (by kernel_rfl) (by kernel_rfl) (by kernel_rfl) hS ?_ ?_
                · intro w' hk; unfold KA at hk; go_simp
                simp only [Act.put, List.setIfInBounds_toArray, List.set_cons_zero, List.set_cons_succ]
                refine fl_takeA (i := 4) (d := 99) (v := .float .f64 ya) rfl rfl rfl (by kernel_rfl) (by kernel_rfl) (by kernel_rfl) hS ?_ ?_
                · intro w' hk; unfold KA at hk; go_simp
                simp only [Act.put, List.setIfInBounds_toArray, List.set_cons_zero, List.set_cons_succ]
                refine fl_takeA (i := 5) (d := 100) (v := .slice (some ⟨g2, 0, none⟩) n n) rfl rfl rfl (by kernel_rfl) (by kernel_rfl) (by kernel_rfl) hS ?_ ?_
                · intro w' hk; unfold KA at hk; go_simp
                simp only [Act.put, List.setIfInBounds_toArray, List.set_cons_zero, List.set_cons_succ]
                refine fl_takeA (i := 6) (d := 101) (v := .int .i64 p) rfl rfl rfl (by kernel_rfl) (by kernel_rfl) (by kernel_rfl) hS ?_ ?_
                · intro w' hk; unfold KA at hk; go_simp
                simp only [Act.put, List.setIfInBounds_toArray, List.set_cons_zero, List.set_cons_succ]
                refine fl_takeA (i := 7) (d := 102) (v := .int .i64 p1) rfl rfl rfl (by kernel_rfl) (by kernel_rfl) (by kernel_rfl) hS ?_ ?_
                · intro w' hk; unfold KA at hk; go_simp
                simp only [Act.put, List.setIfInBounds_toArray, List.set_cons_zero, List.set_cons_succ]
                refine fl_takeA (i := 8) (d := 103) (v := .pointer (some ⟨g2, p1, none⟩)) rfl rfl rfl (by kernel_rfl) (by kernel_rfl) (by kernel_rfl) hS ?_ ?_
                · intro w' hk; unfold KA at hk; go_simp
                simp only [Act.put, List.setIfInBounds_toArray, List.set_cons_zero, List.set_cons_succ]
                refine fl_takeA (i := 9) (d := 104) (v := .float .f64 yb) rfl rfl rfl (by kernel_rfl) (by kernel_rfl) (by kernel_rfl) hS ?_ ?_
                · intro w' hk; unfold KA at hk; go_simp
                simp only [Act.put, List.setIfInBounds_toArray, List.set_cons_zero, List.set_cons_succ]
                refine fl_takeA (i := 10) (d := 105) (v := .slice (some ⟨g2, 0, none⟩) n n) rfl rfl rfl (by kernel_rfl) (by kernel_rfl) (by kernel_rfl) hS ?_ ?_
                · intro w' hk; unfold KA at hk; go_simp
                simp only [Act.put, List.setIfInBounds_toArray, List.set_cons_zero, List.set_cons_succ]
                refine fl_takeA (i := 11) (d := 106) (v := .int .i64 p) rfl rfl rfl (by kernel_rfl) (by kernel_rfl) (by kernel_rfl) hS ?_ ?_
                · intro w' hk; unfold KA at hk; go_simp
                simp only [Act.put, List.setIfInBounds_toArray, List.set_cons_zero, List.set_cons_succ]
                refine fl_takeA (i := 12) (d := 107) (v := .pointer (some ⟨g2, p, none⟩)) rfl rfl rfl (by kernel_rfl) (by kernel_rfl) (by kernel_rfl) hS ?_ ?_
                · intro w' hk; unfold KA at hk; go_simp
                simp only [Act.put, List.setIfInBounds_toArray, List.set_cons_zero, List.set_cons_succ]
                refine fl_takeA (i := 13) (d := 108) (v := .float .f64 ya) rfl rfl rfl (by kernel_rfl) (by kernel_rfl) (by kernel_rfl) hS ?_ ?_
                · intro w' hk; unfold KA at hk; go_simp
                simp only [Act.put, List.setIfInBounds_toArray, List.set_cons_zero, List.set_cons_succ]
                refine fl_takeA (i := 15) (d := 110) (v := .float .f64 Q) rfl rfl rfl (by kernel_rfl) (by kernel_rfl) (by kernel_rfl) hS ?_ ?_
                · intro w' hk; unfold KA at hk; go_simp
                simp only [Act.put, List.setIfInBounds_toArray, List.set_cons_zero, List.set_cons_succ]
                refine wpAnyH_all (rs := [14]) (by kernel_rfl) (by simp) ?_
                intro iz hi
                obtain rfl : iz = 14 := by simpa using hi
                clear hi
                refine op_val (d := 109) (v := .float .f64 (fres .sub yb ya wq.drew)) (w' := (wq.drew.drewN (fnn .sub yb ya))) rfl rfl rfl (by go_simp; try rfl) ?_
                simp only [Act.put, List.setIfInBounds_toArray, List.set_cons_zero, List.set_cons_succ]
                have hK1 : KA w.heap.size wq (wq.drew.drewN (fnn .sub yb ya)) := KA.of (below_drewN hS.2 _)
                refine ⟨hK1, ?_⟩
                refine wpAnyH_all (rs := [16]) (by kernel_rfl) (by simp) ?_
                intro iz hi
                obtain rfl : iz = 16 := by simpa using hi
                clear hi
                refine op_val (d := 111) (v := .float .f64 (fres .mul (fres .sub yb ya wq.drew) Q (wq.drew.drewN (fnn .sub yb ya)))) (w' := ((wq.drew.drewN (fnn .sub yb ya)).drewN (fnn .mul (fres .sub yb ya wq.drew) Q))) rfl rfl rfl (by go_simp; try rfl) ?_
                simp only [Act.put, List.setIfInBounds_toArray, List.set_cons_zero, List.set_cons_succ]
                have hK2 : KA w.heap.size wq ((wq.drew.drewN (fnn .sub yb ya)).drewN (fnn .mul (fres .sub yb ya wq.drew) Q)) := KA.of (below_drewN hK1.2 _)
                refine ⟨hK2, ?_⟩
                refine wpAnyH_all (rs := [17]) (by kernel_rfl) (by simp) ?_
                intro iz hi
                obtain rfl : iz = 17 := by simpa using hi
                clear hi
                refine op_val (d := 112) (v := .float .f64 (fres .add ya (fres .mul (fres .sub yb ya wq.drew) Q (wq.drew.drewN (fnn .sub yb ya))) ((wq.drew.drewN (fnn .sub yb ya)).drewN (fnn .mul (fres .sub yb ya wq.drew) Q)))) (w' := (((wq.drew.drewN (fnn .sub yb ya)).drewN (fnn .mul (fres .sub yb ya wq.drew) Q)).drewN (fnn .add ya (fres .mul (fres .sub yb ya wq.drew) Q (wq.drew.drewN (fnn .sub yb ya)))))) rfl rfl rfl (by go_simp; try rfl) ?_
                simp only [Act.put, List.setIfInBounds_toArray, List.set_cons_zero, List.set_cons_succ]
                have hK3 : KA w.heap.size wq (((wq.drew.drewN (fnn .sub yb ya)).drewN (fnn .mul (fres .sub yb ya wq.drew) Q)).drewN (fnn .add ya (fres .mul (fres .sub yb ya wq.drew) Q (wq.drew.drewN (fnn .sub yb ya))))) := KA.of (below_drewN hK2.2 _)
                refine ⟨hK3, ?_⟩
                refine wpAnyH_all (rs := [18]) (by kernel_rfl) (by simp) ?_
                intro iz hi
                obtain rfl : iz = 18 := by simpa using hi
                clear hi
                refine op_val (d := 113) (v := .agg #[.int .i64 0, .int .i64 p, .float .f64 (fres .add ya (fres .mul (fres .sub yb ya wq.drew) Q (wq.drew.drewN (fnn .sub yb ya))) ((wq.drew.drewN (fnn .sub yb ya)).drewN (fnn .mul (fres .sub yb ya wq.drew) Q)))]) (w' := (((wq.drew.drewN (fnn .sub yb ya)).drewN (fnn .mul (fres .sub yb ya wq.drew) Q)).drewN (fnn .add ya (fres .mul (fres .sub yb ya wq.drew) Q (wq.drew.drewN (fnn .sub yb ya)))))) rfl rfl rfl (by go_simp; try rfl) ?_
                simp only [Act.put, List.setIfInBounds_toArray, List.set_cons_zero, List.set_cons_succ]
                refine ⟨hK3, ?_⟩
                refine wpAnyH_all (rs := [19]) (by kernel_rfl) (by simp) ?_
                intro iz hi
                obtain rfl : iz = 19 := by simpa using hi
                clear hi
                refine op_skipN (w' := ((((((wq.drew.drewN (fnn .sub yb ya)).drewN (fnn .mul (fres .sub yb ya wq.drew) Q)).drewN (fnn .add ya (fres .mul (fres .sub yb ya wq.drew) Q (wq.drew.drewN (fnn .sub yb ya))))).setCell ⟨w.heap.size, 0, none⟩ (.int .i64 0)).setCell ⟨w.heap.size, 1, none⟩ (.int .i64 p)).setCell ⟨w.heap.size, 2, none⟩ (.float .f64 (fres .add ya (fres .mul (fres .sub yb ya wq.drew) Q (wq.drew.drewN (fnn .sub yb ya))) ((wq.drew.drewN (fnn .sub yb ya)).drewN (fnn .mul (fres .sub yb ya wq.drew) Q)))))) rfl rfl (by go_simp; try rfl) ?_
                have hK4 : KA w.heap.size wq ((((((wq.drew.drewN (fnn .sub yb ya)).drewN (fnn .mul (fres .sub yb ya wq.drew) Q)).drewN (fnn .add ya (fres .mul (fres .sub yb ya wq.drew) Q (wq.drew.drewN (fnn .sub yb ya))))).setCell ⟨w.heap.size, 0, none⟩ (.int .i64 0)).setCell ⟨w.heap.size, 1, none⟩ (.int .i64 p)).setCell ⟨w.heap.size, 2, none⟩ (.float .f64 (fres .add ya (fres .mul (fres .sub yb ya wq.drew) Q (wq.drew.drewN (fnn .sub yb ya))) ((wq.drew.drewN (fnn .sub yb ya)).drewN (fnn .mul (fres .sub yb ya wq.drew) Q))))) := KA.of (((hK3.2.setCell (p := ⟨w.heap.size, 0, none⟩) (Nat.le_refl _) _).setCell (p := ⟨w.heap.size, 1, none⟩) (Nat.le_refl _) _).setCell (p := ⟨w.heap.size, 2, none⟩) (Nat.le_refl _) _)
                simp only [Act.put, List.setIfInBounds_toArray, List.set_cons_zero, List.set_cons_succ]
                refine ⟨hK4, wpAnyH_done (by kernel_rfl) (NoPanic.normal ?_) _⟩
                have HBZ : Hid (Below w.heap.size w ((((((wq.drew.drewN (fnn .sub yb ya)).drewN (fnn .mul (fres .sub yb ya wq.drew) Q)).drewN (fnn .add ya (fres .mul (fres .sub yb ya wq.drew) Q (wq.drew.drewN (fnn .sub yb ya))))).setCell ⟨w.heap.size, 0, none⟩ (.int .i64 0)).setCell ⟨w.heap.size, 1, none⟩ (.int .i64 p)).setCell ⟨w.heap.size, 2, none⟩ (.float .f64 (fres .add ya (fres .mul (fres .sub yb ya wq.drew) Q (wq.drew.drewN (fnn .sub yb ya))) ((wq.drew.drewN (fnn .sub yb ya)).drewN (fnn .mul (fres .sub yb ya wq.drew) Q)))))) := HB3.out.1.trans hK4.2
                have HZ : Hid (∀ W1 W2 W3, fv (fres .add ya (fres .mul (fres .sub yb ya W1) Q W2) W3) = trW xs ys x) := fun W1 W2 W3 => by rw [fv_fres, fv_fres, fv_fres, HQ.out, HVW.out.2, trV, HYD.out.1, HYD.out.2.1, HYD.out.2.2.1, HYD.out.2.2.2]
                clear hK1 hK2 hK3 hK4 hS
                go_wp2
                try simp only [Exit.inBlock, Exit.then]
                refine bodyPost_ret (by simp [results, Try.results36, go_sem, q0, q1, q2, ql]; try rfl) rfl ⟨_, by rw [HVW.out.1, HC0.out.2.2.2.2], HZ.out _ _ _, ?_⟩
                exact HBZ.out
              · refine op_val (d := 93) (v := .float .f64 (fres .sub xb xa wr.drew)) (w' := (wr.drew.drewN (fnn .sub xb xa))) rfl rfl rfl (by go_simp; try rfl) ?_
                simp only [Act.put, List.setIfInBounds_toArray, List.set_cons_zero, List.set_cons_succ]
                have hK1 : KA w.heap.size wr (wr.drew.drewN (fnn .sub xb xa)) := KA.of (below_drewN hS.2 _)
                refine ⟨hK1, ?_⟩
                refine wpAnyH_all (rs := [5]) (by kernel_rfl) (by simp) ?_
                intro iz hi
                obtain rfl : iz = 5 := by simpa using hi
                clear hi
                refine op_val (d := 83) (v := .float .f64 (fres .sub x xa (wr.drew.drewN (fnn .sub xb xa)))) (w' := ((wr.drew.drewN (fnn .sub xb xa)).drewN (fnn .sub x xa))) rfl rfl rfl (by go_simp; try rfl) ?_
                simp only [Act.put, List.setIfInBounds_toArray, List.set_cons_zero, List.set_cons_succ]
                have hK2 : KA w.heap.size wr ((wr.drew.drewN (fnn .sub xb xa)).drewN (fnn .sub x xa)) := KA.of (below_drewN hK1.2 _)
                refine ⟨hK2, ?_⟩
                refine wpAnyH_all (rs := [16]) (by kernel_rfl) (by simp) ?_
                intro iz hi
                obtain rfl : iz = 16 := by simpa using hi
                clear hi
                refine op_val (d := 94) (v := .float .f64 (fres .quo (fres .sub x xa (wr.drew.drewN (fnn .sub xb xa))) (fres .sub xb xa wr.drew) ((wr.drew.drewN (fnn .sub xb xa)).drewN (fnn .sub x xa)))) (w' := (((wr.drew.drewN (fnn .sub xb xa)).drewN (fnn .sub x xa)).drewN (fnn .quo (fres .sub x xa (wr.drew.drewN (fnn .sub xb xa))) (fres .sub xb xa wr.drew)))) rfl rfl rfl (by go_simp; try rfl) ?_
                simp only [Act.put, List.setIfInBounds_toArray, List.set_cons_zero, List.set_cons_succ]
                have hK3 : KA w.heap.size wr (((wr.drew.drewN (fnn .sub xb xa)).drewN (fnn .sub x xa)).drewN (fnn .quo (fres .sub x xa (wr.drew.drewN (fnn .sub xb xa))) (fres .sub xb xa wr.drew))) := KA.of (below_drewN hK2.2 _)
                refine ⟨hK3, ?_⟩
                refine wpAnyH_all (rs := [17]) (by kernel_rfl) (by simp) ?_
                intro iz hi
                obtain rfl : iz = 17 := by simpa using hi
                clear hi
                refine op_val (d := 10) (v := .float .f64 (fres .quo (fres .sub x xa (wr.drew.drewN (fnn .sub xb xa))) (fres .sub xb xa wr.drew) ((wr.drew.drewN (fnn .sub xb xa)).drewN (fnn .sub x xa)))) (w' := (((wr.drew.drewN (fnn .sub xb xa)).drewN (fnn .sub x xa)).drewN (fnn .quo (fres .sub x xa (wr.drew.drewN (fnn .sub xb xa))) (fres .sub xb xa wr.drew)))) rfl rfl rfl (by go_simp; try rfl) ?_
                simp only [Act.put, List.setIfInBounds_toArray, List.set_cons_zero, List.set_cons_succ]
                refine ⟨hK3, wpAnyH_done (by kernel_rfl) (NoPanic.normal ?_) _⟩
                obtain ⟨Q, hQ⟩ : ∃ Q, Q = fres .quo (fres .sub x xa (wr.drew.drewN (fnn .sub xb xa))) (fres .sub xb xa wr.drew) ((wr.drew.drewN (fnn .sub xb xa)).drewN (fnn .sub x xa)) := ⟨_, rfl⟩
                have HQ : Hid (fv Q = fop .quo (fop .sub (fv x) (fv xa)) (fop .sub (fv xb) (fv xa))) := by unfold Hid; rw [hQ, fv_fres, fv_fres, fv_fres]
                rw [← hQ]
                clear hQ
                have HBL : Below w.heap.size wr (((wr.drew.drewN (fnn .sub xb xa)).drewN (fnn .sub x xa)).drewN (fnn .quo (fres .sub x xa (wr.drew.drewN (fnn .sub xb xa))) (fres .sub xb xa wr.drew))) := hK3.2
                obtain ⟨wq, hwq⟩ : ∃ W, W = (((wr.drew.drewN (fnn .sub xb xa)).drewN (fnn .sub x xa)).drewN (fnn .quo (fres .sub x xa (wr.drew.drewN (fnn .sub xb xa))) (fres .sub xb xa wr.drew))) := ⟨_, rfl⟩
                have e0 : wq.heap = wr.heap := by rw [hwq]; rfl
                rw [← hwq] at HBL ⊢
                have HB3 : Hid (Below w.heap.size w wq ∧ wq.heap = wr.heap) := ⟨HBW.out.trans HBL, e0⟩
                clear hwq hK1 hK2 hK3 hS HBL e0 cx0 cx1
                have HRQ : wq.heap[w.heap.size]? = some (.cells #[.int .i64 0, .int .i64 0, .float .f64 0] 62) := by rw [HB3.out.2]; exact HRS.out
                obtain ⟨q0, q1, q2, f0, f1, f2, ql⟩ := three_q HRQ
                have cy0 : wq.cell? ⟨g2, p, none⟩ = some (.float .f64 ya) := by have := HYA.out; simp only [World.cell?, HB3.out.2] at this ⊢; exact this
                have cy1 : wq.cell? ⟨g2, p1, none⟩ = some (.float .f64 yb) := by have := HYB.out; simp only [World.cell?, HB3.out.2] at this ⊢; exact this
                clear HRQ
                go_wp2_with (fail)
                refine wp_region_holdsA (S := KA w.heap.size wq) (by kernel_rfl) (KA.of (Below.drew (Below.refl _ _))) (fun hS => ?_)
                refine fl_takeA (i := 0) (d := 95) (v := .int .i64 p) rfl rfl rfl (by kernel_rfl) (by kernel_rfl) (by kernel_rfl) hS ?_ ?_
                · intro w' hk; unfold KA at hk; go_simp
                simp only [Act.put, List.setIfInBounds_toArray, List.set_cons_zero, List.set_cons_succ]
                refine fl_takeA (i := 1) (d := 96) (v := .slice (some ⟨g2, 0, none⟩) n n) rfl rfl rfl (by kernel_rfl) (by kernel_rfl) (by kernel_rfl) hS ?_ ?_
                · intro w' hk; unfold KA at hk; go_simp
                simp only [Act.put, List.setIfInBounds_toArray, List.set_cons_zero, List.set_cons_succ]
                refine fl_takeA (i := 2) (d := 97) (v := .int .i64 p) rfl rfl rfl (by kernel_rfl) (by kernel_rfl) (by kernel_rfl) hS ?_ ?_
                · intro w' hk; unfold KA at hk; go_simp
                simp only [Act.put, List.setIfInBounds_toArray, List.set_cons_zero, List.set_cons_succ]
                refine fl_takeA (i := 3) (d := 98) (v := .pointer (some ⟨g2, p, none⟩)) rfl rfl rfl (by kernel_rfl) (by kernel_rfl) (by kernel_rfl) hS ?_ ?_
                · intro w' hk; unfold KA at hk; go_simp
                simp only [Act.put, List.setIfInBounds_toArray, List.set_cons_zero, List.set_cons_succ]
                refine fl_takeA (i := 4) (d := 99) (v := .float .f64 ya) rfl rfl rfl (by kernel_rfl) (by kernel_rfl) (by kernel_rfl) hS ?_ ?_
                · intro w' hk; unfold KA at hk; go_simp
                simp only [Act.put, List.setIfInBounds_toArray, List.set_cons_zero, List.set_cons_succ]
                refine fl_takeA (i := 5) (d := 100) (v := .slice (some ⟨g2, 0, none⟩) n n) rfl rfl rfl (by kernel_rfl) (by kernel_rfl) (by kernel_rfl) hS ?_ ?_
                · intro w' hk; unfold KA at hk; go_simp
                simp only [Act.put, List.setIfInBounds_toArray, List.set_cons_zero, List.set_cons_succ]
                refine fl_takeA (i := 6) (d := 101) (v := .int .i64 p) rfl rfl rfl (by kernel_rfl) (by kernel_rfl) (by kernel_rfl) hS ?_ ?_
                · intro w' hk; unfold KA at hk; go_simp
                simp only [Act.put, List.setIfInBounds_toArray, List.set_cons_zero, List.set_cons_succ]
                refine fl_takeA (i := 7) (d := 102) (v := .int .i64 p1) rfl rfl rfl (by kernel_rfl) (by kernel_rfl) (by kernel_rfl) hS ?_ ?_
                · intro w' hk; unfold KA at hk; go_simp
                simp only [Act.put, List.setIfInBounds_toArray, List.set_cons_zero, List.set_cons_succ]
                refine fl_takeA (i := 8) (d := 103) (v := .pointer (some ⟨g2, p1, none⟩)) rfl rfl rfl (by kernel_rfl) (by kernel_rfl) (by kernel_rfl) hS ?_ ?_
                · intro w' hk; unfold KA at hk; go_simp
                simp only [Act.put, List.setIfInBounds_toArray, List.set_cons_zero, List.set_cons_succ]
                refine fl_takeA (i := 9) (d := 104) (v := .float .f64 yb) rfl rfl rfl (by kernel_rfl) (by kernel_rfl) (by kernel_rfl) hS ?_ ?_
                · intro w' hk; unfold KA at hk; go_simp
                simp only [Act.put, List.setIfInBounds_toArray, List.set_cons_zero, List.set_cons_succ]
                refine fl_takeA (i := 10) (d := 105) (v := .slice (some ⟨g2, 0, none⟩) n n) rfl rfl rfl (by kernel_rfl) (by kernel_rfl) (by kernel_rfl) hS ?_ ?_
                · intro w' hk; unfold KA at hk; go_simp
                simp only [Act.put, List.setIfInBounds_toArray, List.set_cons_zero, List.set_cons_succ]
                refine fl_takeA (i := 11) (d := 106) (v := .int .i64 p) rfl rfl rfl (by kernel_rfl) (by kernel_rfl) (by kernel_rfl) hS ?_ ?_
                · intro w' hk; unfold KA at hk; go_simp
                simp only [Act.put, List.setIfInBounds_toArray, List.set_cons_zero, List.set_cons_succ]
                refine fl_takeA (i := 12) (d := 107) (v := .pointer (some ⟨g2, p, none⟩)) rfl rfl rfl (by kernel_rfl) (by kernel_rfl) (by kernel_rfl) hS ?_ ?_
                · intro w' hk; unfold KA at hk; go_simp
                simp only [Act.put, List.setIfInBounds_toArray, List.set_cons_zero, List.set_cons_succ]
                refine fl_takeA (i := 13) (d := 108) (v := .float .f64 ya) rfl rfl rfl (by kernel_rfl) (by kernel_rfl) (by kernel_rfl) hS ?_ ?_
                · intro w' hk; unfold KA at hk; go_simp
                simp only [Act.put, List.setIfInBounds_toArray, List.set_cons_zero, List.set_cons_succ]
                refine fl_takeA (i := 15) (d := 110) (v := .float .f64 Q) rfl rfl rfl (by kernel_rfl) (by kernel_rfl) (by kernel_rfl) hS ?_ ?_
                · intro w' hk; unfold KA at hk; go_simp
                simp only [Act.put, List.setIfInBounds_toArray, List.set_cons_zero, List.set_cons_succ]
                refine wpAnyH_all (rs := [14]) (by kernel_rfl) (by simp) ?_
                intro iz hi
                obtain rfl : iz = 14 := by simpa using hi
                clear hi
                refine op_val (d := 109) (v := .float .f64 (fres .sub yb ya wq.drew)) (w' := (wq.drew.drewN (fnn .sub yb ya))) rfl rfl rfl (by go_simp; try rfl) ?_
                simp only [Act.put, List.setIfInBounds_toArray, List.set_cons_zero, List.set_cons_succ]
                have hK1 : KA w.heap.size wq (wq.drew.drewN (fnn .sub yb ya)) := KA.of (below_drewN hS.2 _)
                refine ⟨hK1, ?_⟩
                refine wpAnyH_all (rs := [16]) (by kernel_rfl) (by simp) ?_
                intro iz hi
                obtain rfl : iz = 16 := by simpa using hi
                clear hi
                refine op_val (d := 111) (v := .float .f64 (fres .mul (fres .sub yb ya wq.drew) Q (wq.drew.drewN (fnn .sub yb ya)))) (w' := ((wq.drew.drewN (fnn .sub yb ya)).drewN (fnn .mul (fres .sub yb ya wq.drew) Q))) rfl rfl rfl (by go_simp; try rfl) ?_
                simp only [Act.put, List.setIfInBounds_toArray, List.set_cons_zero, List.set_cons_succ]
                have hK2 : KA w.heap.size wq ((wq.drew.drewN (fnn .sub yb ya)).drewN (fnn .mul (fres .sub yb ya wq.drew) Q)) := KA.of (below_drewN hK1.2 _)
                refine ⟨hK2, ?_⟩
                refine wpAnyH_all (rs := [17]) (by kernel_rfl) (by simp) ?_
                intro iz hi
                obtain rfl : iz = 17 := by simpa using hi
                clear hi
                refine op_val (d := 112) (v := .float .f64 (fres .add ya (fres .mul (fres .sub yb ya wq.drew) Q (wq.drew.drewN (fnn .sub yb ya))) ((wq.drew.drewN (fnn .sub yb ya)).drewN (fnn .mul (fres .sub yb ya wq.drew) Q)))) (w' := (((wq.drew.drewN (fnn .sub yb ya)).drewN (fnn .mul (fres .sub yb ya wq.drew) Q)).drewN (fnn .add ya (fres .mul (fres .sub yb ya wq.drew) Q (wq.drew.drewN (fnn .sub yb ya)))))) rfl rfl rfl (by go_simp; try rfl) ?_
                simp only [Act.put, List.setIfInBounds_toArray, List.set_cons_zero, List.set_cons_succ]
                have hK3 : KA w.heap.size wq (((wq.drew.drewN (fnn .sub yb ya)).drewN (fnn .mul (fres .sub yb ya wq.drew) Q)).drewN (fnn .add ya (fres .mul (fres .sub yb ya wq.drew) Q (wq.drew.drewN (fnn .sub yb ya))))) := KA.of (below_drewN hK2.2 _)
                refine ⟨hK3, ?_⟩
                refine wpAnyH_all (rs := [18]) (by kernel_rfl) (by simp) ?_
                intro iz hi
                obtain rfl : iz = 18 := by simpa using hi
                clear hi
                refine op_val (d := 113) (v := .agg #[.int .i64 0, .int .i64 p, .float .f64 (fres .add ya (fres .mul (fres .sub yb ya wq.drew) Q (wq.drew.drewN (fnn .sub yb ya))) ((wq.drew.drewN (fnn .sub yb ya)).drewN (fnn .mul (fres .sub yb ya wq.drew) Q)))]) (w' := (((wq.drew.drewN (fnn .sub yb ya)).drewN (fnn .mul (fres .sub yb ya wq.drew) Q)).drewN (fnn .add ya (fres .mul (fres .sub yb ya wq.drew) Q (wq.drew.drewN (fnn .sub yb ya)))))) rfl rfl rfl (by go_simp; try rfl) ?_
                simp only [Act.put, List.setIfInBounds_toArray, List.set_cons_zero, List.set_cons_succ]
                refine ⟨hK3, ?_⟩
                refine wpAnyH_all (rs := [19]) (by kernel_rfl) (by simp) ?_
                intro iz hi
                obtain rfl : iz = 19 := by simpa using hi
                clear hi
                refine op_skipN (w' := ((((((wq.drew.drewN (fnn .sub yb ya)).drewN (fnn .mul (fres .sub yb ya wq.drew) Q)).drewN (fnn .add ya (fres .mul (fres .sub yb ya wq.drew) Q (wq.drew.drewN (fnn .sub yb ya))))).setCell ⟨w.heap.size, 0, none⟩ (.int .i64 0)).setCell ⟨w.heap.size, 1, none⟩ (.int .i64 p)).setCell ⟨w.heap.size, 2, none⟩ (.float .f64 (fres .add ya (fres .mul (fres .sub yb ya wq.drew) Q (wq.drew.drewN (fnn .sub yb ya))) ((wq.drew.drewN (fnn .sub yb ya)).drewN (fnn .mul (fres .sub yb ya wq.drew) Q)))))) rfl rfl (by go_simp; try rfl) ?_
                have hK4 : KA w.heap.size wq ((((((wq.drew.drewN (fnn .sub yb ya)).drewN (fnn .mul (fres .sub yb ya wq.drew) Q)).drewN (fnn .add ya (fres .mul (fres .sub yb ya wq.drew) Q (wq.drew.drewN (fnn .sub yb ya))))).setCell ⟨w.heap.size, 0, none⟩ (.int .i64 0)).setCell ⟨w.heap.size, 1, none⟩ (.int .i64 p)).setCell ⟨w.heap.size, 2, none⟩ (.float .f64 (fres .add ya (fres .mul (fres .sub yb ya wq.drew) Q (wq.drew.drewN (fnn .sub yb ya))) ((wq.drew.drewN (fnn .sub yb ya)).drewN (fnn .mul (fres .sub yb ya wq.drew) Q))))) := KA.of (((hK3.2.setCell (p := ⟨w.heap.size, 0, none⟩) (Nat.le_refl _) _).setCell (p := ⟨w.heap.size, 1, none⟩) (Nat.le_refl _) _).setCell (p := ⟨w.heap.size, 2, none⟩) (Nat.le_refl _) _)
                simp only [Act.put, List.setIfInBounds_toArray, List.set_cons_zero, List.set_cons_succ]
                refine ⟨hK4, wpAnyH_done (by kernel_rfl) (NoPanic.normal ?_) _⟩
                have HBZ : Hid (Below w.heap.size w ((((((wq.drew.drewN (fnn .sub yb ya)).drewN (fnn .mul (fres .sub yb ya wq.drew) Q)).drewN (fnn .add ya (fres .mul (fres .sub yb ya wq.drew) Q (wq.drew.drewN (fnn .sub yb ya))))).setCell ⟨w.heap.size, 0, none⟩ (.int .i64 0)).setCell ⟨w.heap.size, 1, none⟩ (.int .i64 p)).setCell ⟨w.heap.size, 2, none⟩ (.float .f64 (fres .add ya (fres .mul (fres .sub yb ya wq.drew) Q (wq.drew.drewN (fnn .sub yb ya))) ((wq.drew.drewN (fnn .sub yb ya)).drewN (fnn .mul (fres .sub yb ya wq.drew) Q)))))) := HB3.out.1.trans hK4.2
                have HZ : Hid (∀ W1 W2 W3, fv (fres .add ya (fres .mul (fres .sub yb ya W1) Q W2) W3) = trW xs ys x) := fun W1 W2 W3 => by rw [fv_fres, fv_fres, fv_fres, HQ.out, HVW.out.2, trV, HYD.out.1, HYD.out.2.1, HYD.out.2.2.1, HYD.out.2.2.2]
                clear hK1 hK2 hK3 hK4 hS
                go_wp2
                try simp only [Exit.inBlock, Exit.then]
                refine bodyPost_ret (by simp [results, Try.results36, go_sem, q0, q1, q2, ql]; try rfl) rfl ⟨_, by rw [HVW.out.1, HC0.out.2.2.2.2], HZ.out _ _ _, ?_⟩
                exact HBZ.out
        · have r2 : (FloatKind.f64.format.order x y == some .lt || FloatKind.f64.format.order x y == some .eq) = false := by rw [ord_le, decide_eq_false p2]
          have HX3 : Hid (C = 3 ∧ trN xs ys x = 0 ∧ trW xs ys x = some 0) := by
            have e : C = 3 := by rw [HL.out.2.2.2, if_neg (by omega), if_neg (by omega), if_neg (fun h => p2 (hin.1 h.2).2)]
            have e2 : trC xs ys x = 3 := by rw [← HL.out.2.2.1]; exact e
            exact ⟨e, by rw [trN, e2, if_neg (by decide)], by rw [trW, e2, if_neg (by decide)]⟩
          obtain ⟨q0, q1, q2, f0, f1, f2, ql⟩ := three_q HRS.out
          clear p1 p2 hin
          go_wp2
          try simp only [Exit.inBlock, Exit.then]
          refine bodyPost_ret (by simp [results, Try.results36, go_sem, q0, q1, q2, ql]; try rfl) rfl ⟨0, by rw [HX3.out.1, HX3.out.2.1], by rw [HX3.out.2.2]; decide, ?_⟩
          have hb := HBW.out
          (repeat' (first | (with_reducible exact Below.refl _ _) | (with_reducible assumption) | (with_reducible refine Below.setCell ?_ ?_ _) | (with_reducible refine Below.alloc ?_ ?_ _) | (with_reducible refine below_drewN ?_ _) | (with_reducible refine Below.drew ?_) | (with_reducible exact Nat.le_refl _) | omega | (simp; done) | (simp; omega)))
      · have r1 : (FloatKind.f64.format.order z x == some .lt || FloatKind.f64.format.order z x == some .eq) = false := by rw [ord_le, decide_eq_false p1]
        have HX3 : Hid (C = 3 ∧ trN xs ys x = 0 ∧ trW xs ys x = some 0) := by
          have e : C = 3 := by rw [HL.out.2.2.2, if_neg (by omega), if_neg (by omega), if_neg (fun h => p1 (hin.1 h.2).1)]
          have e2 : trC xs ys x = 3 := by rw [← HL.out.2.2.1]; exact e
          exact ⟨e, by rw [trN, e2, if_neg (by decide)], by rw [trW, e2, if_neg (by decide)]⟩
        obtain ⟨q0, q1, q2, f0, f1, f2, ql⟩ := three_q HRS.out
        clear p1 hin
        go_wp2
        try simp only [Exit.inBlock, Exit.then]
        refine bodyPost_ret (by simp [results, Try.results36, go_sem, q0, q1, q2, ql]; try rfl) rfl ⟨0, by rw [HX3.out.1, HX3.out.2.1], by rw [HX3.out.2.2]; decide, ?_⟩
        have hb := HBW.out
        (repeat' (first | (with_reducible exact Below.refl _ _) | (with_reducible assumption) | (with_reducible refine Below.setCell ?_ ?_ _) | (with_reducible refine Below.alloc ?_ ?_ _) | (with_reducible refine below_drewN ?_ _) | (with_reducible refine Below.drew ?_) | (with_reducible exact Nat.le_refl _) | omega | (simp; done) | (simp; omega)))

end Go.Proofs.Ytgjdcdhdfhkfcaa
