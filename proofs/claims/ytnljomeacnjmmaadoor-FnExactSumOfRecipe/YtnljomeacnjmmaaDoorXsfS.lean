/- Proved here: the code of a step, of the model. -/
import Derived.Test.YtnljomeacnjmmaaDoorXuS
namespace Go.Proofs.YtnljomeacnjmmaaDoor
open Go.ChangeShapes Go.WideShapes Go.ChangeAt Go.RowKit Go.Joins
set_option linter.unusedVariables false
set_option linter.unusedSimpArgs false


set_option maxRecDepth 10000 in
set_option maxHeartbeats 12800000 in
theorem spec_stp (rnm : ByteArray) (pa : Option Addr) (pn pc : Nat) (sa : Option Addr) (sn sc : Nat) (y : Rs) (d : Sp) (rs : List Rs) (ss : List Sp) (ps : List Pm) (i : Nat) {W : World} (hi : i < sn) (hpn : pn ≤ 1048576) (hsn : sn ≤ 1048576) (hd : smSp 1048576 d) (hy : Rs1 W y d) (hp : RG 4 pmC W (.slice pa pn pc) ps) (hs : RG 5 rsC W (.slice sa sn sc) rs) (hir : i < rs.length) (hyi : rs[i] = y) (hnm : (rs.take i).map (·.nm) = tnm (ss.take i)) :
    Calls Tryd.prog 25 #[.agg #[.string rnm, .slice pa pn pc, .slice sa sn sc], .int .i64 (i : Int)] W fun e w' => e = .returned (.int .i64 (stpK ps (ss.take i) d)) ∧ Below W.heap.size W w' := by
  obtain ⟨K, hK⟩ : ∃ K, K = stpK ps (ss.take i) d := ⟨_, rfl⟩
  obtain ⟨M, hM⟩ : ∃ M, M = nameK y.nm := ⟨_, rfl⟩
  obtain ⟨A, hA⟩ : ∃ A, A = atL ((rs.take i).map (·.nm)) y.nm := ⟨_, rfl⟩
  obtain ⟨U, hU⟩ : ∃ U, U = useK ps y.t := ⟨_, rfl⟩
  obtain ⟨L, hL⟩ : ∃ L, L = lowV ps y.t := ⟨_, rfl⟩
  have h1 := hd.nm
  have h2 := hd.t
  have h3 := hd.n
  unfold smV at h2
  have hl : y.sn = d.ss.length := hy.ss.len
  have HKK : Hid (K = if M = 0 then (if 0 ≤ A then 1 else if 8 < y.sn then 2 else if U = 0 then (if L < 0 then 3 else setsK ps d.ss) else U) else M) := by
    unfold Hid; rw [hK, hM, hA, hU, hL, hnm, hy.nm, hy.t, hl]
    unfold stpK timK
    by_cases hu : useK ps d.t = 0
    · rw [if_pos hu, if_pos hu]
      by_cases hlw : lowV ps d.t < 0
      · rw [if_pos hlw, if_pos hlw]; rfl
      · rw [if_neg hlw, if_neg hlw]; rfl
    · rw [if_neg hu, if_neg hu, if_neg hu]
  have HM : Hid (∀ X, Calls Tryd.prog 22 #[.string y.nm] X fun e w' => e = .returned (.int .i64 M) ∧ w' = X) := fun X => by rw [hM]; exact spec_name y.nm X (by rw [hy.nm]; omega)
  have HA : Hid (∀ X, Below W.heap.size W X → Calls Tryd.prog 42 #[.slice sa sn sc, .int .i64 (i : Int), .string y.nm] X fun e w' => e = .returned (.int .i64 A) ∧ Below X.heap.size X w') := fun X hb => by rw [hA]; exact spec_atRecipeStep rs y.nm (by omega) (by omega) (hs.below hb)
  have HU : Hid (∀ X, Below W.heap.size W X → Calls Tryd.prog 43 #[.agg #[.string rnm, .slice pa pn pc, .slice sa sn sc], .agg #[.int .i64 y.t.k, .int .i64 y.t.n, .string y.t.s]] X fun e w' => e = .returned (.int .i64 U) ∧ Below X.heap.size X w') := fun X hb => by rw [hU]; exact spec_use ⟨rnm, pa, pn, pc, sa, sn, sc⟩ y.t ps (show pn ≤ 1500000 by omega) (by rw [hy.t]; omega) (hp.below hb)
  have HP : Hid (∀ X, Below W.heap.size W X → Calls Tryd.prog 23 #[.agg #[.string rnm, .slice pa pn pc, .slice sa sn sc], .int .i64 (pn : Int), .string y.t.s] X fun e w' => e = .returned (.int .i64 (atL (pnm ps) y.t.s)) ∧ Below X.heap.size X w') := fun X hb => by
    have := spec_atParam ⟨rnm, pa, pn, pc, sa, sn, sc⟩ ps y.t.s (W := X) (n := pn) (show pn ≤ 2000000 by omega) (Nat.le_refl _) (hp.below hb)
    rw [List.take_of_length_le (by rw [hp.len]; exact Nat.le_refl _)] at this
    exact this
  have HL : Hid (y.t.k = 2 → U = 0 → ∃ k g o, atL (pnm ps) y.t.s = ((k : Nat) : Int) ∧ k < pn ∧ pa = some ⟨g, o, none⟩ ∧ ∀ X, Below W.heap.size W X → g < X.heap.size ∧ X.cell? ⟨g, o + k * 4 + 1, none⟩ = some (.int .i64 L)) := by
    intro hk2 hu0
    have hok := useK_ok (hU.symm.trans hu0)
    have g0 := hok.2 hk2
    have g1 := (atL_bnd (pnm ps) y.t.s).2
    have g1' : (atL (pnm ps) y.t.s) < ps.length := by simpa [pnm] using g1
    have hkl : (atL (pnm ps) y.t.s).toNat < ps.length := by omega
    obtain ⟨g, o, c2, he, hg, hj⟩ := hp.pos (by omega)
    simp only [Value.slice.injEq] at he
    refine ⟨(atL (pnm ps) y.t.s).toNat, g, o, by omega, by have := hp.len; omega, he.1, fun X hb => ?_⟩
    obtain ⟨c0, c1, c3, c4⟩ := pmC_at (hj _ hkl)
    have e : ∀ q, X.cell? ⟨g, q, none⟩ = W.cell? ⟨g, q, none⟩ := fun q => by simp [World.cell?, hb.block g hg]
    refine ⟨Nat.lt_of_lt_of_le hg hb.size, ?_⟩
    rw [e, c1, hL]
    unfold lowV
    rw [if_pos hk2, getD_at hkl]
  have HL2 : Hid (¬ y.t.k = 2 → L = y.t.n) := fun hk => by rw [hL]; unfold lowV; rw [if_neg hk]
  have HF : Hid (∀ (j : Nat) (hj : j < d.ss.length), (∀ X, Below W.heap.size W X → Calls Tryd.prog 22 #[.string (d.ss[j]).nm] X fun e w' => e = .returned (.int .i64 (nameK (d.ss[j]).nm)) ∧ w' = X) ∧
      (∀ X, Below W.heap.size W X → Calls Tryd.prog 44 #[.slice y.sa y.sn y.sc, .int .i64 (j : Int), .string (d.ss[j]).nm] X fun e w' => e = .returned (.int .i64 (atL (snm (d.ss.take j)) (d.ss[j]).nm)) ∧ Below X.heap.size X w') ∧
      (∀ X, Below W.heap.size W X → Calls Tryd.prog 43 #[.agg #[.string rnm, .slice pa pn pc, .slice sa sn sc], .agg #[.int .i64 (d.ss[j]).v.k, .int .i64 (d.ss[j]).v.n, .string (d.ss[j]).v.s]] X fun e w' => e = .returned (.int .i64 (useK ps (d.ss[j]).v)) ∧ Below X.heap.size X w')) := fun j hj => by
    have hm := hd.ss j hj
    have m1 := hm.1
    have m2 := hm.2
    exact ⟨fun X _ => spec_name _ X (by omega), fun X hb => spec_atSetting d.ss _ (by omega) (by omega) (hy.ss.below hb), fun X hb => spec_use ⟨rnm, pa, pn, pc, sa, sn, sc⟩ _ ps (show pn ≤ 1500000 by omega) (by omega) (hp.below hb)⟩
  have HS : Hid (RG 4 seC W (.slice y.sa y.sn y.sc) d.ss ∧ y.sn = d.ss.length) := ⟨hy.ss, hl⟩
  have HC : Hid (∃ g o, sa = some ⟨g, o, none⟩ ∧ g < W.heap.size ∧ (W.cell? ⟨g, o + i * 5, none⟩ = some (.string y.nm) ∧ W.cell? ⟨g, o + i * 5 + 1, none⟩ = some (.int .i64 y.t.k) ∧ W.cell? ⟨g, o + i * 5 + 2, none⟩ = some (.int .i64 y.t.n) ∧ W.cell? ⟨g, o + i * 5 + 3, none⟩ = some (.string y.t.s) ∧ W.cell? ⟨g, o + i * 5 + 4, none⟩ = some (.slice y.sa y.sn y.sc))) := by
    obtain ⟨g, o, c2, he, hg, hj⟩ := hs.pos (by omega)
    simp only [Value.slice.injEq] at he
    refine ⟨g, o, he.1, hg, ?_⟩
    have := rsC_at (hj i hir)
    rw [hyi] at this
    exact this
  have hyn : y.sn ≤ 1048576 := by omega
  rw [← hK]
  clear hK hM hA hU hL h1 h2 h3 hl hd hy hp hs hir hyi hnm
  obtain ⟨g1, o1, hra, hg, d0, d1, d2, d3, d4⟩ := HC.out
  clear HC
  subst hra
  have b0 : (0 : Int) ≤ (i : Int) := by omega
  have b1 : (i : Int) < (sn : Int) := by omega
  obtain ⟨V0, hV0⟩ : ∃ V, V = (W.alloc (.cells #[.string rnm, .slice pa pn pc, .slice (some ⟨g1, o1, none⟩) sn sc] 33)).alloc (.cells #[.string y.nm, .int .i64 y.t.k, .int .i64 y.t.n, .string y.t.s, .slice y.sa y.sn y.sc] 64) := ⟨_, rfl⟩
  have HB0 : Hid (Below W.heap.size W V0 ∧ V0.heap[W.heap.size]? = some (.cells #[.string rnm, .slice pa pn pc, .slice (some ⟨g1, o1, none⟩) sn sc] 33) ∧ V0.heap[W.heap.size + 1]? = some (.cells #[.string y.nm, .int .i64 y.t.k, .int .i64 y.t.n, .string y.t.s, .slice y.sa y.sn y.sc] 64)) := by
    refine ⟨by rw [hV0]; (repeat' (first | (with_reducible exact Below.refl _ _) | (with_reducible assumption) | (with_reducible refine Below.setCell ?_ ?_ _) | (with_reducible refine Below.alloc ?_ ?_ _) | (with_reducible refine below_drewN ?_ _) | (with_reducible refine Below.drew ?_) | (with_reducible exact Nat.le_refl _) | omega | (simp; done) | (simp; omega))), by rw [hV0]; exact (Below.heap_alloc _ _ _ (by simp)).trans (heap_alloc_new _ _), by rw [hV0]; exact heap_alloc_at1 W _ _⟩
  have HV0 : Hid (V0 = (W.alloc (.cells #[.string rnm, .slice pa pn pc, .slice (some ⟨g1, o1, none⟩) sn sc] 33)).alloc (.cells #[.string y.nm, .int .i64 y.t.k, .int .i64 y.t.n, .string y.t.s, .slice y.sa y.sn y.sc] 64)) := hV0
  clear hV0
  go_enter Tryd.func25, Tryd.ntmps25
  go_wp2_with (fail)
  rw [← HV0.out]
  clear HV0 d0 d1 d2 d3 d4 hg
  refine (HM.out _).mono ?_
  rintro e w1 ⟨rfl, rfl⟩
  clear HM
  by_cases hm : M = 0
  case neg =>
    have hKK := HKK.out
    rw [if_neg hm] at hKK
    clear HKK
    subst hKK
    go_wp2
    go_returns
    exact ⟨rfl, HB0.out.1⟩
  have HK2 : Hid (K = if 0 ≤ A then 1 else if 8 < y.sn then 2 else if U = 0 then (if L < 0 then 3 else setsK ps d.ss) else U) := by
    have hKK := HKK.out
    rw [if_pos hm] at hKK
    exact hKK
  clear HKK
  subst hm
  obtain ⟨p0, p1, p2, pf, pl⟩ := three_at HB0.out.2.1
  obtain ⟨q0, q1, q2, q3, q4, qf, ql⟩ := five_at HB0.out.2.2
  clear pf qf
  go_wp2_with (fail)
  clear p0 p1 p2 pl q0 q1 q2 q3 q4 ql
  refine (HA.out _ HB0.out.1).mono ?_
  rintro e w2 ⟨rfl, hb2⟩
  have HB2 : Hid (Below W.heap.size W w2 ∧ w2.heap[W.heap.size]? = some (.cells #[.string rnm, .slice pa pn pc, .slice (some ⟨g1, o1, none⟩) sn sc] 33) ∧ w2.heap[W.heap.size + 1]? = some (.cells #[.string y.nm, .int .i64 y.t.k, .int .i64 y.t.n, .string y.t.s, .slice y.sa y.sn y.sc] 64)) := ⟨HB0.out.1.trans (hb2.mono HB0.out.1.size), (hb2.block _ (ltQ HB0.out.2.1)).trans HB0.out.2.1, (hb2.block _ (ltQ HB0.out.2.2)).trans HB0.out.2.2⟩
  clear hb2 HB0 HA
  obtain ⟨p0, p1, p2, pf, pl⟩ := three_at HB2.out.2.1
  obtain ⟨q0, q1, q2, q3, q4, qf, ql⟩ := five_at HB2.out.2.2
  clear pf qf
  by_cases ha : 0 ≤ A
  · have hKK := HK2.out
    rw [if_pos ha] at hKK
    clear HK2
    subst hKK
    go_wp2
    go_returns
    exact ⟨rfl, HB2.out.1⟩
  have HK3 : Hid (K = if 8 < y.sn then 2 else if U = 0 then (if L < 0 then 3 else setsK ps d.ss) else U) := by
    have hKK := HK2.out
    rw [if_neg ha] at hKK
    exact hKK
  clear HK2
  by_cases h8 : 8 < y.sn
  · have hKK := HK3.out
    rw [if_pos h8] at hKK
    clear HK3
    subst hKK
    go_wp2
    go_returns
    exact ⟨rfl, HB2.out.1⟩
  have HK4 : Hid (K = if U = 0 then (if L < 0 then 3 else setsK ps d.ss) else U) := by
    have hKK := HK3.out
    rw [if_neg h8] at hKK
    exact hKK
  clear HK3
  go_wp2_with (fail)
  refine (HU.out _ HB2.out.1).mono ?_
  rintro e w3 ⟨rfl, hb3⟩
  have HB3 : Hid (Below W.heap.size W w3 ∧ w3.heap[W.heap.size]? = some (.cells #[.string rnm, .slice pa pn pc, .slice (some ⟨g1, o1, none⟩) sn sc] 33) ∧ w3.heap[W.heap.size + 1]? = some (.cells #[.string y.nm, .int .i64 y.t.k, .int .i64 y.t.n, .string y.t.s, .slice y.sa y.sn y.sc] 64)) := ⟨HB2.out.1.trans (hb3.mono HB2.out.1.size), (hb3.block _ (ltQ HB2.out.2.1)).trans HB2.out.2.1, (hb3.block _ (ltQ HB2.out.2.2)).trans HB2.out.2.2⟩
  clear hb3 HB2 HU p0 p1 p2 pl q0 q1 q2 q3 q4 ql ha
  by_cases huu : U = 0
  case neg =>
    have hKK := HK4.out
    rw [if_neg huu] at hKK
    clear HK4
    subst hKK
    go_wp2
    go_returns
    exact ⟨rfl, HB3.out.1⟩
  have HK5 : Hid (K = if L < 0 then 3 else setsK ps d.ss) := by
    have hKK := HK4.out
    rw [if_pos huu] at hKK
    exact hKK
  have HLL : Hid (y.t.k = 2 → ∃ k g o, atL (pnm ps) y.t.s = ((k : Nat) : Int) ∧ k < pn ∧ pa = some ⟨g, o, none⟩ ∧ ∀ X, Below W.heap.size W X → g < X.heap.size ∧ X.cell? ⟨g, o + k * 4 + 1, none⟩ = some (.int .i64 L)) := fun hk => HL.out hk huu
  clear HK4 HL
  subst huu
  obtain ⟨q0, q1, q2, q3, q4, qf, ql⟩ := five_at HB3.out.2.2
  obtain ⟨p0, p1, p2, pf, pl⟩ := three_at HB3.out.2.1
  clear qf pf
  by_cases hk2 : y.t.k = 2
  · obtain ⟨k, g2, o2, e1, e2, e3, e4⟩ := HLL.out hk2
    have HE : Hid (∀ X, Below W.heap.size W X → g2 < X.heap.size ∧ X.cell? ⟨g2, o2 + k * 4 + 1, none⟩ = some (.int .i64 L)) := e4
    have c0 : (0 : Int) ≤ (k : Int) := by omega
    have c1 : (k : Int) < (pn : Int) := by omega
    rw [e1] at HP
    rw [hk2] at q1
    subst e3
    have g9 := e4 _ HB3.out.1
    obtain ⟨g10, g11⟩ := g9
    have hcall : Hid (∀ X : Und w3.heap.size w3, Calls Tryd.prog 23 #[.agg #[.string rnm, .slice (some ⟨g2, o2, none⟩) pn pc, .slice (some ⟨g1, o1, none⟩) sn sc], .int .i64 (pn : Int), .string y.t.s] X.W fun e w' => e = .returned (.int .i64 (k : Int)) ∧ Below X.W.heap.size X.W w') := fun X => by
      have := HP.out X.W (HB3.out.1.trans (X.below.mono HB3.out.1.size))
      exact this
    clear e1 e4 HLL HL2 hk2 HP HE
    go_wp2_with (fail)
    (refine wp_region_und (by kernel_rfl) (by kernel_rfl) (fun hund => ?_); (repeat (go_big_quiet_step (first | (go_at_call 23; with_reducible refine und_call ?_ (hcall.out _); exact Nat.le_refl _)))); with_reducible refine wpQuiet_nil ?_; clear hund; intro W1 hb1; obtain ⟨hc1, hf1⟩ := undcell hb1)
    have HB4 : Hid (Below W.heap.size W W1 ∧ W1.heap[W.heap.size]? = some (.cells #[.string rnm, .slice (some ⟨g2, o2, none⟩) pn pc, .slice (some ⟨g1, o1, none⟩) sn sc] 33) ∧ W1.heap[W.heap.size + 1]? = some (.cells #[.string y.nm, .int .i64 y.t.k, .int .i64 y.t.n, .string y.t.s, .slice y.sa y.sn y.sc] 64)) := ⟨HB3.out.1.trans (hb1.mono HB3.out.1.size), (hb1.block _ (ltQ HB3.out.2.1)).trans HB3.out.2.1, (hb1.block _ (ltQ HB3.out.2.2)).trans HB3.out.2.2⟩
    clear hb1 hc1 hf1 hcall HB3 p0 p1 p2 pl q0 q1 q2 q3 q4 ql g10 g11 c0 c1 e2
    by_cases hlo : L < 0
    · have hKK := HK5.out
      rw [if_pos hlo] at hKK
      clear HK5
      subst hKK
      go_wp2
      go_returns
      exact ⟨rfl, HB4.out.1⟩
    have HK6 : Hid (K = setsK ps d.ss) := by
      have hKK := HK5.out
      rw [if_neg hlo] at hKK
      exact hKK
    clear HK5
    go_wp2
    go_loopw [9] (fun i wr => ∃ t : Nat, t ≤ y.sn ∧ i = .int .i64 t ∧ Hid (Below W.heap.size W wr ∧ wr.heap[W.heap.size]? = some (.cells #[.string rnm, .slice (some ⟨g2, o2, none⟩) pn pc, .slice (some ⟨g1, o1, none⟩) sn sc] 33) ∧ wr.heap[W.heap.size + 1]? = some (.cells #[.string y.nm, .int .i64 y.t.k, .int .i64 y.t.n, .string y.t.s, .slice y.sa y.sn y.sc] 64) ∧ ∀ i, i < t → sefK ps (d.ss.take i) (d.ss.getD i seD) = 0)) (fun i _ => y.sn - (intOf i).toNat)
    case atStart => exact ⟨0, Nat.zero_le _, rfl, HB4.out.1, HB4.out.2.1, HB4.out.2.2, fun i hi => by omega⟩
    case round =>
      clear HB4
      obtain ⟨t, ht, rfl, hR⟩ := hrel
      obtain ⟨q0, q1, q2, q3, q4, qf, ql⟩ := five_at hR.out.2.2.1
      obtain ⟨p0, p1, p2, pf, pl⟩ := three_at hR.out.2.1
      clear qf pf
      by_cases hlt : t < y.sn
      · have htl : t < d.ss.length := by rw [← HS.out.2]; exact hlt
        obtain ⟨g, o, c2, he, hg, hj⟩ := (HS.out.1.below hR.out.1).pos (by omega)
        simp only [Value.slice.injEq] at he
        obtain ⟨hx0, hx1, hx2⟩ := he
        clear hx1 hx2
        obtain ⟨c0, c1, c2, c3⟩ := seC_at (hj t htl)
        obtain ⟨z, hz⟩ : ∃ z, z = d.ss[t] := ⟨_, rfl⟩
        rw [← hz] at c0 c1 c2 c3
        obtain ⟨F1, F2, F3⟩ := HF.out t htl
        rw [← hz] at F1 F2 F3
        obtain ⟨M, hM⟩ : ∃ M, M = nameK z.nm := ⟨_, rfl⟩
        obtain ⟨A, hA⟩ : ∃ A, A = atL (snm (d.ss.take t)) z.nm := ⟨_, rfl⟩
        obtain ⟨U, hU⟩ : ∃ U, U = useK ps z.v := ⟨_, rfl⟩
        obtain ⟨q, hq⟩ : ∃ q, q = sefK ps (d.ss.take t) d.ss[t] := ⟨_, rfl⟩
        have HQ : Hid ((¬ q = 0 → K = q) ∧ (q = 0 → ∀ i, i < t + 1 → sefK ps (d.ss.take i) (d.ss.getD i seD) = 0) ∧ q = if M = 0 then (if 0 ≤ A then 1 else U) else M) := by
          refine ⟨fun e => ?_, fun e i hi => ?_, ?_⟩
          · rw [HK6.out, hq]; rw [hq] at e; exact setsK_stop htl hR.out.2.2.2 e
          · rcases (by omega : i < t ∨ i = t) with h | rfl
            · exact hR.out.2.2.2 i h
            · rw [getD_at htl, ← hq]; exact e
          · rw [hq, hM, hA, hU, ← hz]; rfl
        have HM : Hid (∀ X, Below W.heap.size W X → Calls Tryd.prog 22 #[.string z.nm] X fun e w' => e = .returned (.int .i64 M) ∧ w' = X) := by rw [hM]; exact F1
        have HA : Hid (∀ X, Below W.heap.size W X → Calls Tryd.prog 44 #[.slice (some ⟨g, o, none⟩) y.sn y.sc, .int .i64 (t : Int), .string z.nm] X fun e w' => e = .returned (.int .i64 A) ∧ Below X.heap.size X w') := by rw [hA, ← hx0]; exact F2
        have HU : Hid (∀ X, Below W.heap.size W X → Calls Tryd.prog 43 #[.agg #[.string rnm, .slice (some ⟨g2, o2, none⟩) pn pc, .slice (some ⟨g1, o1, none⟩) sn sc], .agg #[.int .i64 z.v.k, .int .i64 z.v.n, .string z.v.s]] X fun e w' => e = .returned (.int .i64 U) ∧ Below X.heap.size X w') := by rw [hU]; exact F3
        rw [hx0] at q4
        have HR : Hid (Below W.heap.size W wr ∧ wr.heap[W.heap.size]? = some (.cells #[.string rnm, .slice (some ⟨g2, o2, none⟩) pn pc, .slice (some ⟨g1, o1, none⟩) sn sc] 33) ∧ wr.heap[W.heap.size + 1]? = some (.cells #[.string y.nm, .int .i64 y.t.k, .int .i64 y.t.n, .string y.t.s, .slice y.sa y.sn y.sc] 64)) := ⟨hR.out.1, hR.out.2.1, hR.out.2.2.1⟩
        clear hj hz hM hA hU hq F1 F2 F3 hR
        have b2 : (0 : Int) ≤ (t : Int) := by omega
        have b3 : (t : Int) < (y.sn : Int) := by omega
        have HX0 : Hid (y.sa = some ⟨g, o, none⟩) := hx0
        clear hx0
        go_wp2_with (fail)
        refine (HM.out _ HR.out.1).mono ?_
        rintro e w5 ⟨rfl, rfl⟩
        clear HM
        by_cases hm : M = 0
        case neg =>
          have hqq := HQ.out.2.2
          rw [if_neg hm] at hqq
          have hkk := HQ.out.1 (by rw [hqq]; exact hm)
          rw [hqq] at hkk
          clear HQ hqq
          subst hkk
          go_wp2
          go_returns
          exact ⟨rfl, HR.out.1⟩
        have HQ2 : Hid ((¬ q = 0 → K = q) ∧ (q = 0 → ∀ i, i < t + 1 → sefK ps (d.ss.take i) (d.ss.getD i seD) = 0) ∧ q = if 0 ≤ A then 1 else U) := by
          have hqq := HQ.out.2.2
          rw [if_pos hm] at hqq
          exact ⟨HQ.out.1, HQ.out.2.1, hqq⟩
        clear HQ
        subst hm
        have hcallA : Hid (∀ X : Und w5.heap.size w5, Calls Tryd.prog 44 #[.slice (some ⟨g, o, none⟩) y.sn y.sc, .int .i64 (t : Int), .string z.nm] X.W fun e w' => e = .returned (.int .i64 A) ∧ Below X.W.heap.size X.W w') := fun X => HA.out X.W (HR.out.1.trans (X.below.mono HR.out.1.size))
        clear HA
        go_wp2_with (fail)
        (refine wp_region_und (by kernel_rfl) (by kernel_rfl) (fun hund => ?_); (repeat (go_big_quiet_step (first | (go_at_call 44; with_reducible refine und_call ?_ (hcallA.out _); exact Nat.le_refl _)))); with_reducible refine wpQuiet_nil ?_; clear hund; intro W2 hb2; obtain ⟨hc2, hf2⟩ := undcell hb2)
        have HR2 : Hid (Below W.heap.size W W2 ∧ W2.heap[W.heap.size]? = some (.cells #[.string rnm, .slice (some ⟨g2, o2, none⟩) pn pc, .slice (some ⟨g1, o1, none⟩) sn sc] 33) ∧ W2.heap[W.heap.size + 1]? = some (.cells #[.string y.nm, .int .i64 y.t.k, .int .i64 y.t.n, .string y.t.s, .slice y.sa y.sn y.sc] 64)) := ⟨HR.out.1.trans (hb2.mono HR.out.1.size), (hb2.block _ (ltQ HR.out.2.1)).trans HR.out.2.1, (hb2.block _ (ltQ HR.out.2.2)).trans HR.out.2.2⟩
        by_cases ha : 0 ≤ A
        · have hqq := HQ2.out.2.2
          rw [if_pos ha] at hqq
          have hkk := HQ2.out.1 (by rw [hqq]; omega)
          rw [hqq] at hkk
          clear HQ2 hqq hcallA hb2 hc2 hf2
          subst hkk
          go_wp2
          go_returns
          exact ⟨rfl, HR2.out.1⟩
        have HQ3 : Hid ((¬ U = 0 → K = U) ∧ (U = 0 → ∀ i, i < t + 1 → sefK ps (d.ss.take i) (d.ss.getD i seD) = 0)) := by
          have hqq := HQ2.out.2.2
          rw [if_neg ha] at hqq
          exact ⟨fun e => by rw [← hqq]; exact HQ2.out.1 (by rw [hqq]; exact e), fun e => HQ2.out.2.1 (by rw [hqq]; exact e)⟩
        have hcallU : Hid (∀ X : Und W2.heap.size W2, Calls Tryd.prog 43 #[.agg #[.string rnm, .slice (some ⟨g2, o2, none⟩) pn pc, .slice (some ⟨g1, o1, none⟩) sn sc], .agg #[.int .i64 z.v.k, .int .i64 z.v.n, .string z.v.s]] X.W fun e w' => e = .returned (.int .i64 U) ∧ Below X.W.heap.size X.W w') := fun X => HU.out X.W (HR2.out.1.trans (X.below.mono HR2.out.1.size))
        have hgB : g < w5.heap.size := hg
        have eB : ∀ a, W2.cell? ⟨g, a, none⟩ = w5.cell? ⟨g, a, none⟩ := fun a => by simp [World.cell?, hb2.block g hgB]
        have f0 := (eB (o + t * 4)).trans c0
        have f1 := (eB (o + t * 4 + 1)).trans c1
        have f2 := (eB (o + t * 4 + 2)).trans c2
        have f3 := (eB (o + t * 4 + 3)).trans c3
        have hg2 : g < W2.heap.size := Nat.lt_of_lt_of_le hgB hb2.size
        clear eB hgB HQ2 HU hb2 hc2 hf2 hcallA c0 c1 c2 c3 hg p0 p1 p2 pl q0 q1 q2 q3 q4 ql HR
        obtain ⟨q0, q1, q2, q3, q4, qf, ql⟩ := five_at HR2.out.2.2
        obtain ⟨p0, p1, p2, pf, pl⟩ := three_at HR2.out.2.1
        rw [HX0.out] at q4
        clear qf pf
        go_wp2_with (fail)
        (refine wp_region_und (by kernel_rfl) (by kernel_rfl) (fun hund => ?_); (repeat (go_big_quiet_step (first | (go_at_call 43; with_reducible refine und_call ?_ (hcallU.out _); exact Nat.le_refl _)))); with_reducible refine wpQuiet_nil ?_; clear hund; intro W3 hb3; obtain ⟨hc3, hf3⟩ := undcell hb3)
        have HR3 : Hid (Below W.heap.size W W3 ∧ W3.heap[W.heap.size]? = some (.cells #[.string rnm, .slice (some ⟨g2, o2, none⟩) pn pc, .slice (some ⟨g1, o1, none⟩) sn sc] 33) ∧ W3.heap[W.heap.size + 1]? = some (.cells #[.string y.nm, .int .i64 y.t.k, .int .i64 y.t.n, .string y.t.s, .slice y.sa y.sn y.sc] 64)) := ⟨HR2.out.1.trans (hb3.mono HR2.out.1.size), (hb3.block _ (ltQ HR2.out.2.1)).trans HR2.out.2.1, (hb3.block _ (ltQ HR2.out.2.2)).trans HR2.out.2.2⟩
        clear hb3 hc3 hf3 hcallU HR2 f0 f1 f2 f3 hg2 p0 p1 p2 pl q0 q1 q2 q3 q4 ql
        by_cases hu : U = 0
        · have HG : Hid (∀ i, i < t + 1 → sefK ps (d.ss.take i) (d.ss.getD i seD) = 0) := HQ3.out.2 hu
          clear HQ3
          subst hu
          go_wp2
          go_roundw
          case rel => exact ⟨t + 1, by omega, by go_num, HR3.out.1, HR3.out.2.1, HR3.out.2.2, HG.out⟩
          case measure => simp [intOf]; omega
        · have hkk := HQ3.out.1 hu
          clear HQ3
          subst hkk
          go_wp2
          go_returns
          exact ⟨rfl, HR3.out.1⟩
      · have hk0 : K = 0 := by
          rw [HK6.out]
          exact fnz_zero (fun i hi => hR.out.2.2.2 i (by have := HS.out.2; omega))
        have HB : Hid (Below W.heap.size W wr) := hR.out.1
        clear hR HK6
        subst hk0
        go_wp2
        go_returns
        exact ⟨rfl, HB.out⟩
  · have hln := HL2.out hk2
    rw [hln] at HK5
    have dk : (y.t.k == 2) = false := by simp [hk2]
    clear HLL HL2 HP hln
    by_cases hlo : y.t.n < 0
    · have hKK := HK5.out
      rw [if_pos hlo] at hKK
      clear HK5
      subst hKK
      go_wp2
      go_returns
      exact ⟨rfl, HB3.out.1⟩
    have HK6 : Hid (K = setsK ps d.ss) := by
      have hKK := HK5.out
      rw [if_neg hlo] at hKK
      exact hKK
    clear HK5
    go_wp2
    clear p0 p1 p2 pl q0 q1 q2 q3 q4 ql
    go_loopw [9] (fun i wr => ∃ t : Nat, t ≤ y.sn ∧ i = .int .i64 t ∧ Hid (Below W.heap.size W wr ∧ wr.heap[W.heap.size]? = some (.cells #[.string rnm, .slice pa pn pc, .slice (some ⟨g1, o1, none⟩) sn sc] 33) ∧ wr.heap[W.heap.size + 1]? = some (.cells #[.string y.nm, .int .i64 y.t.k, .int .i64 y.t.n, .string y.t.s, .slice y.sa y.sn y.sc] 64) ∧ ∀ i, i < t → sefK ps (d.ss.take i) (d.ss.getD i seD) = 0)) (fun i _ => y.sn - (intOf i).toNat)
    case atStart => exact ⟨0, Nat.zero_le _, rfl, HB3.out.1, HB3.out.2.1, HB3.out.2.2, fun i hi => by omega⟩
    case round =>
      clear HB3
      obtain ⟨t, ht, rfl, hR⟩ := hrel
      obtain ⟨q0, q1, q2, q3, q4, qf, ql⟩ := five_at hR.out.2.2.1
      obtain ⟨p0, p1, p2, pf, pl⟩ := three_at hR.out.2.1
      clear qf pf
      by_cases hlt : t < y.sn
      · have htl : t < d.ss.length := by rw [← HS.out.2]; exact hlt
        obtain ⟨g, o, c2, he, hg, hj⟩ := (HS.out.1.below hR.out.1).pos (by omega)
        simp only [Value.slice.injEq] at he
        obtain ⟨hx0, hx1, hx2⟩ := he
        clear hx1 hx2
        obtain ⟨c0, c1, c2, c3⟩ := seC_at (hj t htl)
        obtain ⟨z, hz⟩ : ∃ z, z = d.ss[t] := ⟨_, rfl⟩
        rw [← hz] at c0 c1 c2 c3
        obtain ⟨F1, F2, F3⟩ := HF.out t htl
        rw [← hz] at F1 F2 F3
        obtain ⟨M, hM⟩ : ∃ M, M = nameK z.nm := ⟨_, rfl⟩
        obtain ⟨A, hA⟩ : ∃ A, A = atL (snm (d.ss.take t)) z.nm := ⟨_, rfl⟩
        obtain ⟨U, hU⟩ : ∃ U, U = useK ps z.v := ⟨_, rfl⟩
        obtain ⟨q, hq⟩ : ∃ q, q = sefK ps (d.ss.take t) d.ss[t] := ⟨_, rfl⟩
        have HQ : Hid ((¬ q = 0 → K = q) ∧ (q = 0 → ∀ i, i < t + 1 → sefK ps (d.ss.take i) (d.ss.getD i seD) = 0) ∧ q = if M = 0 then (if 0 ≤ A then 1 else U) else M) := by
          refine ⟨fun e => ?_, fun e i hi => ?_, ?_⟩
          · rw [HK6.out, hq]; rw [hq] at e; exact setsK_stop htl hR.out.2.2.2 e
          · rcases (by omega : i < t ∨ i = t) with h | rfl
            · exact hR.out.2.2.2 i h
            · rw [getD_at htl, ← hq]; exact e
          · rw [hq, hM, hA, hU, ← hz]; rfl
        have HM : Hid (∀ X, Below W.heap.size W X → Calls Tryd.prog 22 #[.string z.nm] X fun e w' => e = .returned (.int .i64 M) ∧ w' = X) := by rw [hM]; exact F1
        have HA : Hid (∀ X, Below W.heap.size W X → Calls Tryd.prog 44 #[.slice (some ⟨g, o, none⟩) y.sn y.sc, .int .i64 (t : Int), .string z.nm] X fun e w' => e = .returned (.int .i64 A) ∧ Below X.heap.size X w') := by rw [hA, ← hx0]; exact F2
        have HU : Hid (∀ X, Below W.heap.size W X → Calls Tryd.prog 43 #[.agg #[.string rnm, .slice pa pn pc, .slice (some ⟨g1, o1, none⟩) sn sc], .agg #[.int .i64 z.v.k, .int .i64 z.v.n, .string z.v.s]] X fun e w' => e = .returned (.int .i64 U) ∧ Below X.heap.size X w') := by rw [hU]; exact F3
        rw [hx0] at q4
        have HR : Hid (Below W.heap.size W wr ∧ wr.heap[W.heap.size]? = some (.cells #[.string rnm, .slice pa pn pc, .slice (some ⟨g1, o1, none⟩) sn sc] 33) ∧ wr.heap[W.heap.size + 1]? = some (.cells #[.string y.nm, .int .i64 y.t.k, .int .i64 y.t.n, .string y.t.s, .slice y.sa y.sn y.sc] 64)) := ⟨hR.out.1, hR.out.2.1, hR.out.2.2.1⟩
        clear hj hz hM hA hU hq F1 F2 F3 hR
        have b2 : (0 : Int) ≤ (t : Int) := by omega
        have b3 : (t : Int) < (y.sn : Int) := by omega
        have HX0 : Hid (y.sa = some ⟨g, o, none⟩) := hx0
        clear hx0
        go_wp2_with (fail)
        refine (HM.out _ HR.out.1).mono ?_
        rintro e w5 ⟨rfl, rfl⟩
        clear HM
        by_cases hm : M = 0
        case neg =>
          have hqq := HQ.out.2.2
          rw [if_neg hm] at hqq
          have hkk := HQ.out.1 (by rw [hqq]; exact hm)
          rw [hqq] at hkk
          clear HQ hqq
          subst hkk
          go_wp2
          go_returns
          exact ⟨rfl, HR.out.1⟩
        have HQ2 : Hid ((¬ q = 0 → K = q) ∧ (q = 0 → ∀ i, i < t + 1 → sefK ps (d.ss.take i) (d.ss.getD i seD) = 0) ∧ q = if 0 ≤ A then 1 else U) := by
          have hqq := HQ.out.2.2
          rw [if_pos hm] at hqq
          exact ⟨HQ.out.1, HQ.out.2.1, hqq⟩
        clear HQ
        subst hm
        have hcallA : Hid (∀ X : Und w5.heap.size w5, Calls Tryd.prog 44 #[.slice (some ⟨g, o, none⟩) y.sn y.sc, .int .i64 (t : Int), .string z.nm] X.W fun e w' => e = .returned (.int .i64 A) ∧ Below X.W.heap.size X.W w') := fun X => HA.out X.W (HR.out.1.trans (X.below.mono HR.out.1.size))
        clear HA
        go_wp2_with (fail)
        (refine wp_region_und (by kernel_rfl) (by kernel_rfl) (fun hund => ?_); (repeat (go_big_quiet_step (first | (go_at_call 44; with_reducible refine und_call ?_ (hcallA.out _); exact Nat.le_refl _)))); with_reducible refine wpQuiet_nil ?_; clear hund; intro W2 hb2; obtain ⟨hc2, hf2⟩ := undcell hb2)
        have HR2 : Hid (Below W.heap.size W W2 ∧ W2.heap[W.heap.size]? = some (.cells #[.string rnm, .slice pa pn pc, .slice (some ⟨g1, o1, none⟩) sn sc] 33) ∧ W2.heap[W.heap.size + 1]? = some (.cells #[.string y.nm, .int .i64 y.t.k, .int .i64 y.t.n, .string y.t.s, .slice y.sa y.sn y.sc] 64)) := ⟨HR.out.1.trans (hb2.mono HR.out.1.size), (hb2.block _ (ltQ HR.out.2.1)).trans HR.out.2.1, (hb2.block _ (ltQ HR.out.2.2)).trans HR.out.2.2⟩
        by_cases ha : 0 ≤ A
        · have hqq := HQ2.out.2.2
          rw [if_pos ha] at hqq
          have hkk := HQ2.out.1 (by rw [hqq]; omega)
          rw [hqq] at hkk
          clear HQ2 hqq hcallA hb2 hc2 hf2
          subst hkk
          go_wp2
          go_returns
          exact ⟨rfl, HR2.out.1⟩
        have HQ3 : Hid ((¬ U = 0 → K = U) ∧ (U = 0 → ∀ i, i < t + 1 → sefK ps (d.ss.take i) (d.ss.getD i seD) = 0)) := by
          have hqq := HQ2.out.2.2
          rw [if_neg ha] at hqq
          exact ⟨fun e => by rw [← hqq]; exact HQ2.out.1 (by rw [hqq]; exact e), fun e => HQ2.out.2.1 (by rw [hqq]; exact e)⟩
        have hcallU : Hid (∀ X : Und W2.heap.size W2, Calls Tryd.prog 43 #[.agg #[.string rnm, .slice pa pn pc, .slice (some ⟨g1, o1, none⟩) sn sc], .agg #[.int .i64 z.v.k, .int .i64 z.v.n, .string z.v.s]] X.W fun e w' => e = .returned (.int .i64 U) ∧ Below X.W.heap.size X.W w') := fun X => HU.out X.W (HR2.out.1.trans (X.below.mono HR2.out.1.size))
        have hgB : g < w5.heap.size := hg
        have eB : ∀ a, W2.cell? ⟨g, a, none⟩ = w5.cell? ⟨g, a, none⟩ := fun a => by simp [World.cell?, hb2.block g hgB]
        have f0 := (eB (o + t * 4)).trans c0
        have f1 := (eB (o + t * 4 + 1)).trans c1
        have f2 := (eB (o + t * 4 + 2)).trans c2
        have f3 := (eB (o + t * 4 + 3)).trans c3
        have hg2 : g < W2.heap.size := Nat.lt_of_lt_of_le hgB hb2.size
        clear eB hgB HQ2 HU hb2 hc2 hf2 hcallA c0 c1 c2 c3 hg p0 p1 p2 pl q0 q1 q2 q3 q4 ql HR
        obtain ⟨q0, q1, q2, q3, q4, qf, ql⟩ := five_at HR2.out.2.2
        obtain ⟨p0, p1, p2, pf, pl⟩ := three_at HR2.out.2.1
        rw [HX0.out] at q4
        clear qf pf
        go_wp2_with (fail)
        (refine wp_region_und (by kernel_rfl) (by kernel_rfl) (fun hund => ?_); (repeat (go_big_quiet_step (first | (go_at_call 43; with_reducible refine und_call ?_ (hcallU.out _); exact Nat.le_refl _)))); with_reducible refine wpQuiet_nil ?_; clear hund; intro W3 hb3; obtain ⟨hc3, hf3⟩ := undcell hb3)
        have HR3 : Hid (Below W.heap.size W W3 ∧ W3.heap[W.heap.size]? = some (.cells #[.string rnm, .slice pa pn pc, .slice (some ⟨g1, o1, none⟩) sn sc] 33) ∧ W3.heap[W.heap.size + 1]? = some (.cells #[.string y.nm, .int .i64 y.t.k, .int .i64 y.t.n, .string y.t.s, .slice y.sa y.sn y.sc] 64)) := ⟨HR2.out.1.trans (hb3.mono HR2.out.1.size), (hb3.block _ (ltQ HR2.out.2.1)).trans HR2.out.2.1, (hb3.block _ (ltQ HR2.out.2.2)).trans HR2.out.2.2⟩
        clear hb3 hc3 hf3 hcallU HR2 f0 f1 f2 f3 hg2 p0 p1 p2 pl q0 q1 q2 q3 q4 ql
        by_cases hu : U = 0
        · have HG : Hid (∀ i, i < t + 1 → sefK ps (d.ss.take i) (d.ss.getD i seD) = 0) := HQ3.out.2 hu
          clear HQ3
          subst hu
          go_wp2
          go_roundw
          case rel => exact ⟨t + 1, by omega, by go_num, HR3.out.1, HR3.out.2.1, HR3.out.2.2, HG.out⟩
          case measure => simp [intOf]; omega
        · have hkk := HQ3.out.1 hu
          clear HQ3
          subst hkk
          go_wp2
          go_returns
          exact ⟨rfl, HR3.out.1⟩
      · have hk0 : K = 0 := by
          rw [HK6.out]
          exact fnz_zero (fun i hi => hR.out.2.2.2 i (by have := HS.out.2; omega))
        have HB : Hid (Below W.heap.size W wr) := hR.out.1
        clear hR HK6
        subst hk0
        go_wp2
        go_returns
        exact ⟨rfl, HB.out⟩

end Go.Proofs.YtnljomeacnjmmaaDoor
