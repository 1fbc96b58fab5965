/- Proved here: what is wrong with a value where it stands, a time, a setting, a parameter, of the program. -/
import Derived.Test.YtnljomeacnjmmaaDoorXnI
import Derived.Test.YtnljomeacnjmmaaDoorXvI
namespace Go.Proofs.YtnljomeacnjmmaaDoor
open Go.ChangeShapes Go.WideShapes Go.ChangeAt Go.RowKit Go.Joins
set_option linter.unusedVariables false
set_option linter.unusedSimpArgs false


set_option maxRecDepth 10000 in
set_option maxHeartbeats 3200000 in
theorem impl_use (v : Vl) (ps : List Pm) {W : World} {pa : Option Addr} {pn pc : Nat} (ht : Hid (Tab W)) (hpn : pn ≤ 1500000) (hv : v.s.size ≤ 2000000) (hp : RG 4 pmC W (.slice pa pn pc) ps) :
    Calls Tryd.prog 68 #[.agg #[.int .i64 v.k, .int .i64 v.n, .string v.s], .slice pa pn pc] W fun e w' => e = .returned (.int .i64 (useK ps v)) ∧ Below W.heap.size W w' := by
  obtain ⟨K, hK⟩ : ∃ K, K = useK ps v := ⟨_, rfl⟩
  obtain ⟨T, hT⟩ : ∃ T, T = vtS v := ⟨_, rfl⟩
  obtain ⟨A, hA⟩ : ∃ A, A = atL (pnm ps) v.s := ⟨_, rfl⟩
  have hW := useK_ways hK hT hA
  have HT : Hid (∀ X, Below W.heap.size W X → Calls Tryd.prog 34 #[.agg #[.int .i64 v.k, .int .i64 v.n, .string v.s]] X fun e w' => e = .returned (.string T) ∧ Below X.heap.size X w') := fun X hb => by rw [hT]; exact impl_vt v X (ht.out.step hb) hv
  have HA : Hid (∀ X, Below W.heap.size W X → Calls Tryd.prog 51 #[.slice pa pn pc, .string v.s] X fun e w' => e = .returned (.int .i64 A) ∧ Below X.heap.size X w') := fun X hb => by rw [hA]; exact impl_atParam ps v.s (by omega) (hp.below hb)
  clear hp ht
  rw [← hK]
  clear hK hT hA
  have HB0 : Hid (Below W.heap.size W (W.alloc (.cells #[.int .i64 v.k, .int .i64 v.n, .string v.s] 61))) := by unfold Hid; (repeat' (first | (with_reducible exact Below.refl _ _) | (with_reducible assumption) | (with_reducible refine Below.setCell ?_ ?_ _) | (with_reducible refine Below.alloc ?_ ?_ _) | (with_reducible refine below_drewN ?_ _) | (with_reducible refine Below.drew ?_) | (with_reducible exact Nat.le_refl _) | omega | (simp; done) | (simp; omega)))
  go_enter Tryd.func68, Tryd.ntmps68
  go_wp2_with (fail)
  refine (HT.out _ HB0.out).mono ?_
  rintro e w1 ⟨rfl, hb1⟩
  have HK1 : Hid (w1.heap[W.heap.size]? = some (.cells #[.int .i64 v.k, .int .i64 v.n, .string v.s] 61)) := (hb1.block _ (by simp)).trans (heap_alloc_new _ _)
  have HB1 : Hid (Below W.heap.size W w1) := HB0.out.trans (hb1.mono (by simp))
  clear hb1 HT HB0
  rcases hW with ⟨h1, h2⟩ | ⟨h1, h2, h3, h4⟩ | ⟨h1, h2, h3, h4⟩ | ⟨h1, h2, h3⟩
  · subst h1 h2
    go_wp2
    go_returns
    exact ⟨rfl, HB1.out⟩
  · subst h4
    obtain ⟨e1, e2⟩ := ne_empty h1
    clear h1
    obtain ⟨q0, q1, q2, qf, ql⟩ := three_at HK1.out
    clear qf
    rw [h2] at q0
    go_wp2_with (fail)
    refine (HA.out _ HB1.out).mono ?_
    rintro e w2 ⟨rfl, hb2⟩
    have HB2 : Hid (Below W.heap.size W w2) := HB1.out.trans (hb2.mono HB1.out.size)
    clear hb2 HB1 q0 q1 q2 ql
    go_wp2
    go_returns
    exact ⟨rfl, HB2.out⟩
  · subst h4
    obtain ⟨e1, e2⟩ := ne_empty h1
    clear h1
    obtain ⟨q0, q1, q2, qf, ql⟩ := three_at HK1.out
    clear qf
    rw [h2] at q0
    go_wp2_with (fail)
    refine (HA.out _ HB1.out).mono ?_
    rintro e w2 ⟨rfl, hb2⟩
    have HB2 : Hid (Below W.heap.size W w2) := HB1.out.trans (hb2.mono HB1.out.size)
    clear hb2 HB1 q0 q1 q2 ql
    go_wp2
    go_returns
    exact ⟨rfl, HB2.out⟩
  · subst h3
    obtain ⟨e1, e2⟩ := ne_empty h1
    clear h1
    obtain ⟨q0, q1, q2, qf, ql⟩ := three_at HK1.out
    clear qf
    go_wp2
    go_returns
    exact ⟨rfl, HB1.out⟩

set_option maxRecDepth 10000 in
set_option maxHeartbeats 3200000 in
theorem impl_tim (v : Vl) (ps : List Pm) {W : World} {pa : Option Addr} {pn pc : Nat} (ht : Hid (Tab W)) (hpn : pn ≤ 1500000) (hv : v.s.size ≤ 2000000) (hp : RG 4 pmC W (.slice pa pn pc) ps) :
    Calls Tryd.prog 55 #[.agg #[.int .i64 v.k, .int .i64 v.n, .string v.s], .slice pa pn pc] W fun e w' => e = .returned (.int .i64 (timK ps v)) ∧ Below W.heap.size W w' := by
  obtain ⟨K, hK⟩ : ∃ K, K = timK ps v := ⟨_, rfl⟩
  obtain ⟨U, hU⟩ : ∃ U, U = useK ps v := ⟨_, rfl⟩
  have HU : Hid (∀ X, Below W.heap.size W X → Calls Tryd.prog 68 #[.agg #[.int .i64 v.k, .int .i64 v.n, .string v.s], .slice pa pn pc] X fun e w' => e = .returned (.int .i64 U) ∧ Below X.heap.size X w') := fun X hb => by rw [hU]; exact impl_use v ps (ht.out.step hb) hpn hv (hp.below hb)
  have HA : Hid (∀ X, Below W.heap.size W X → Calls Tryd.prog 51 #[.slice pa pn pc, .string v.s] X fun e w' => e = .returned (.int .i64 (atL (pnm ps) v.s)) ∧ Below X.heap.size X w') := fun X hb => impl_atParam ps v.s (by omega) (hp.below hb)
  have HP : Hid (RG 4 pmC W (.slice pa pn pc) ps) := hp
  rw [← hK]
  have HB0 : Hid (Below W.heap.size W (W.alloc (.cells #[.int .i64 v.k, .int .i64 v.n, .string v.s] 61))) := by unfold Hid; (repeat' (first | (with_reducible exact Below.refl _ _) | (with_reducible assumption) | (with_reducible refine Below.setCell ?_ ?_ _) | (with_reducible refine Below.alloc ?_ ?_ _) | (with_reducible refine below_drewN ?_ _) | (with_reducible refine Below.drew ?_) | (with_reducible exact Nat.le_refl _) | omega | (simp; done) | (simp; omega)))
  by_cases hu : U = 0
  case neg =>
    have hk : K = U := by rw [hK]; unfold timK; rw [← hU, if_neg hu]
    subst hk
    clear hK hU hp HP HA ht
    go_enter Tryd.func55, Tryd.ntmps55
    go_wp2_with (fail)
    refine (HU.out _ HB0.out).mono ?_
    rintro e w1 ⟨rfl, hb1⟩
    have HB1 : Hid (Below W.heap.size W w1) := HB0.out.trans (hb1.mono (by simp))
    clear hb1 HB0 HU
    go_wp2
    go_returns
    exact ⟨rfl, HB1.out⟩
  have hk0 : K = if lowV ps v < 0 then 3 else 0 := by rw [hK]; unfold timK; rw [← hU, if_pos hu]
  have hok := useK_ok (hU.symm.trans hu)
  subst hu
  clear hK hU
  by_cases h2 : v.k = 2
  · obtain ⟨k, hk, e1, e2, e3⟩ : ∃ k, ∃ h : k < ps.length, atL (pnm ps) v.s = k ∧ ps.getD k pmD = ps[k] ∧ lowV ps v = (ps[k]).lo := by
      have h0 := hok.2 h2
      have h1 := (atL_bnd (pnm ps) v.s).2
      have h1' : (atL (pnm ps) v.s) < ps.length := by simpa [pnm] using h1
      refine ⟨(atL (pnm ps) v.s).toNat, by omega, by omega, getD_at (by omega), ?_⟩
      unfold lowV
      rw [if_pos h2, getD_at (by omega)]
    rw [e3] at hk0
    rw [e1] at HA
    obtain ⟨L, hL⟩ : ∃ L, L = (ps[k]).lo := ⟨_, rfl⟩
    rw [← hL] at hk0
    have HK0 : Hid (K = if L < 0 then 3 else 0) := hk0
    clear hk0
    have hkn : k < pn := by rw [hp.len]; exact hk
    have HC : Hid (∃ g o, pa = some ⟨g, o, none⟩ ∧ ∀ X, Below W.heap.size W X → g < X.heap.size ∧ X.cell? ⟨g, o + k * 4 + 1, none⟩ = some (.int .i64 L)) := by
      obtain ⟨g, o, c2, he, hg, hj⟩ := hp.pos (by omega)
      simp only [Value.slice.injEq] at he
      refine ⟨g, o, he.1, fun X hb => ?_⟩
      obtain ⟨c0, c1, c3, c4⟩ := pmC_at (hj k hk)
      have e : ∀ q, X.cell? ⟨g, q, none⟩ = W.cell? ⟨g, q, none⟩ := fun q => by simp [World.cell?, hb.block g hg]
      exact ⟨Nat.lt_of_lt_of_le hg hb.size, by rw [e, c1, hL]⟩
    clear e1 e2 e3 hL hok hp HP ht
    obtain ⟨g, o, rfl, HC2⟩ := HC.out
    have HC3 : Hid (∀ X, Below W.heap.size W X → g < X.heap.size ∧ X.cell? ⟨g, o + k * 4 + 1, none⟩ = some (.int .i64 L)) := HC2
    have H2 : Hid (v.k = 2) := h2
    clear HC HC2 h2
    have b0 : (0 : Int) ≤ (k : Int) := by omega
    have b1 : (k : Int) < (pn : Int) := by omega
    go_enter Tryd.func55, Tryd.ntmps55
    go_wp2_with (fail)
    refine (HU.out _ HB0.out).mono ?_
    rintro e w1 ⟨rfl, hb1⟩
    have HB1 : Hid (Below W.heap.size W w1) := HB0.out.trans (hb1.mono (by simp))
    obtain ⟨q0, q1, q2, qf, ql⟩ := three_at ((hb1.block _ (by simp)).trans (heap_alloc_new W (.cells #[.int .i64 v.k, .int .i64 v.n, .string v.s] 61)))
    have h2 := H2.out
    rw [h2] at q0
    clear hb1 HB0 HU qf
    go_wp2_with (fail)
    refine (HA.out _ HB1.out).mono ?_
    rintro e w2 ⟨rfl, hb2⟩
    have HB2 : Hid (Below W.heap.size W w2) := HB1.out.trans (hb2.mono HB1.out.size)
    obtain ⟨g0, g1⟩ := HC3.out _ HB2.out
    clear hb2 HB1 q0 q1 q2 ql HC3
    by_cases hl : L < 0
    · have hk0 := HK0.out
      rw [if_pos hl] at hk0
      clear HK0
      subst hk0
      go_wp2
      go_returns
      exact ⟨rfl, HB2.out⟩
    · have hk0 := HK0.out
      rw [if_neg hl] at hk0
      clear HK0
      subst hk0
      go_wp2
      go_returns
      exact ⟨rfl, HB2.out⟩
  · have e3 : lowV ps v = v.n := by unfold lowV; rw [if_neg h2]
    rw [e3] at hk0
    have HK0 : Hid (K = if v.n < 0 then 3 else 0) := hk0
    clear hk0
    clear e3 hok hp HP HA ht
    go_enter Tryd.func55, Tryd.ntmps55
    go_wp2_with (fail)
    refine (HU.out _ HB0.out).mono ?_
    rintro e w1 ⟨rfl, hb1⟩
    have HB1 : Hid (Below W.heap.size W w1) := HB0.out.trans (hb1.mono (by simp))
    obtain ⟨q0, q1, q2, qf, ql⟩ := three_at ((hb1.block _ (by simp)).trans (heap_alloc_new W (.cells #[.int .i64 v.k, .int .i64 v.n, .string v.s] 61)))
    clear hb1 HB0 HU qf
    by_cases hl : v.n < 0
    · have hk0 := HK0.out
      rw [if_pos hl] at hk0
      clear HK0
      subst hk0
      go_wp2
      go_returns
      exact ⟨rfl, HB1.out⟩
    · have hk0 := HK0.out
      rw [if_neg hl] at hk0
      clear HK0
      subst hk0
      go_wp2
      go_returns
      exact ⟨rfl, HB1.out⟩

set_option maxRecDepth 10000 in
set_option maxHeartbeats 3200000 in
theorem impl_sef (x : Se) (ah : List Se) (ps : List Pm) {W : World} {pa sa : Option Addr} {pn pc sn sc : Nat} (ht : Hid (Tab W)) (hpn : pn ≤ 1500000) (hsn : sn ≤ 1500000) (hx : smSe 1048576 x) (hp : RG 4 pmC W (.slice pa pn pc) ps) (hs : RG 4 seC W (.slice sa sn sc) ah) :
    Calls Tryd.prog 56 #[.agg #[.string x.nm, .int .i64 x.v.k, .int .i64 x.v.n, .string x.v.s], .slice sa sn sc, .slice pa pn pc] W fun e w' => e = .returned (.int .i64 (sefK ps ah x)) ∧ Below W.heap.size W w' := by
  obtain ⟨K, hK⟩ : ∃ K, K = sefK ps ah x := ⟨_, rfl⟩
  obtain ⟨U, hU⟩ : ∃ U, U = useK ps x.v := ⟨_, rfl⟩
  obtain ⟨M, hM⟩ : ∃ M, M = nameK x.nm := ⟨_, rfl⟩
  obtain ⟨A, hA⟩ : ∃ A, A = atL (snm ah) x.nm := ⟨_, rfl⟩
  have h1 := hx.1
  have h2 := hx.2
  have HU : Hid (∀ X, Below W.heap.size W X → Calls Tryd.prog 68 #[.agg #[.int .i64 x.v.k, .int .i64 x.v.n, .string x.v.s], .slice pa pn pc] X fun e w' => e = .returned (.int .i64 U) ∧ Below X.heap.size X w') := fun X hb => by rw [hU]; exact impl_use x.v ps (ht.out.step hb) hpn (by omega) (hp.below hb)
  have HA : Hid (∀ X, Below W.heap.size W X → Calls Tryd.prog 69 #[.slice sa sn sc, .string x.nm] X fun e w' => e = .returned (.int .i64 A) ∧ Below X.heap.size X w') := fun X hb => by rw [hA]; exact impl_atSetting ah x.nm (by omega) (hs.below hb)
  have HM : Hid (∀ X, Calls Tryd.prog 30 #[.string x.nm] X fun e w' => e = .returned (.int .i64 M) ∧ w' = X) := fun X => by rw [hM]; exact impl_name x.nm X (by omega)
  have HKK : Hid (K = if M = 0 then (if 0 ≤ A then 1 else U) else M) := by unfold Hid; rw [hK, hM, hA, hU]; rfl
  rw [← hK]
  have HB0 : Hid (Below W.heap.size W (W.alloc (.cells #[.string x.nm, .int .i64 x.v.k, .int .i64 x.v.n, .string x.v.s] 67))) := by unfold Hid; (repeat' (first | (with_reducible exact Below.refl _ _) | (with_reducible assumption) | (with_reducible refine Below.setCell ?_ ?_ _) | (with_reducible refine Below.alloc ?_ ?_ _) | (with_reducible refine below_drewN ?_ _) | (with_reducible refine Below.drew ?_) | (with_reducible exact Nat.le_refl _) | omega | (simp; done) | (simp; omega)))
  have HK0 : Hid ((W.alloc (.cells #[.string x.nm, .int .i64 x.v.k, .int .i64 x.v.n, .string x.v.s] 67)).heap[W.heap.size]? = some (.cells #[.string x.nm, .int .i64 x.v.k, .int .i64 x.v.n, .string x.v.s] 67)) := heap_alloc_new _ _
  clear hK hU hM hA hx h1 h2 hp hs ht
  go_enter Tryd.func56, Tryd.ntmps56
  go_wp2_with (fail)
  refine (HM.out _).mono ?_
  rintro e w1 ⟨rfl, rfl⟩
  clear HM
  by_cases hm : M = 0
  case neg =>
    have hKK := HKK.out
    rw [if_neg hm] at hKK
    clear HKK
    subst hKK
    go_wp2
    go_returns
    exact ⟨rfl, HB0.out⟩
  have HK2 : Hid (K = if 0 ≤ A then 1 else U) := by
    have hKK := HKK.out
    rw [if_pos hm] at hKK
    exact hKK
  clear HKK
  subst hm
  go_wp2_with (fail)
  obtain ⟨W0, hW0⟩ : ∃ V, V = W.alloc (.cells #[.string x.nm, .int .i64 x.v.k, .int .i64 x.v.n, .string x.v.s] 67) := ⟨_, rfl⟩
  rw [← hW0] at HB0 HK0 ⊢
  clear hW0
  refine (HA.out _ HB0.out).mono ?_
  rintro e w2 ⟨rfl, hb2⟩
  have HB2 : Hid (Below W.heap.size W w2) := HB0.out.trans (hb2.mono HB0.out.size)
  obtain ⟨q0, q1, q2, q3, qf, ql⟩ := quad_at ((hb2.block _ (ltQ HK0.out)).trans HK0.out)
  clear hb2 HB0 HA HK0 qf
  by_cases ha : 0 ≤ A
  · have hKK := HK2.out
    rw [if_pos ha] at hKK
    clear HK2
    subst hKK
    go_wp2
    go_returns
    exact ⟨rfl, HB2.out⟩
  · have hKK := HK2.out
    rw [if_neg ha] at hKK
    clear HK2
    subst hKK
    go_wp2_with (fail)
    refine (HU.out _ HB2.out).mono ?_
    rintro e w3 ⟨rfl, hb3⟩
    have HB3 : Hid (Below W.heap.size W w3) := HB2.out.trans (hb3.mono HB2.out.size)
    clear hb3 HB2 HU q0 q1 q2 q3 ql
    go_wp2
    go_returns
    exact ⟨rfl, HB3.out⟩

set_option maxRecDepth 10000 in
set_option maxHeartbeats 6400000 in
theorem impl_prm (x : Pm) (ah : List Pm) {W : World} {pa : Option Addr} {pn pc : Nat} (hpn : pn ≤ 1500000) (hx : smPm 1048576 x) (hp : RG 4 pmC W (.slice pa pn pc) ah) :
    Calls Tryd.prog 31 #[.agg #[.string x.nm, .int .i64 x.lo, .int .i64 x.hi, .int .i64 x.ba], .slice pa pn pc] W fun e w' => e = .returned (.int .i64 (prmK ah x)) ∧ Below W.heap.size W w' := by
  obtain ⟨K, hK⟩ : ∃ K, K = prmK ah x := ⟨_, rfl⟩
  obtain ⟨M, hM⟩ : ∃ M, M = nameK x.nm := ⟨_, rfl⟩
  obtain ⟨A, hA⟩ : ∃ A, A = atL (pnm ah) x.nm := ⟨_, rfl⟩
  obtain ⟨Q, hQ⟩ : ∃ Q, Q = insB x.ba x.lo x.hi := ⟨_, rfl⟩
  unfold smPm at hx
  have HA : Hid (∀ X, Below W.heap.size W X → Calls Tryd.prog 51 #[.slice pa pn pc, .string x.nm] X fun e w' => e = .returned (.int .i64 A) ∧ Below X.heap.size X w') := fun X hb => by rw [hA]; exact impl_atParam ah x.nm (by omega) (hp.below hb)
  have HM : Hid (∀ X, Calls Tryd.prog 30 #[.string x.nm] X fun e w' => e = .returned (.int .i64 M) ∧ w' = X) := fun X => by rw [hM]; exact impl_name x.nm X (by omega)
  have HQ : Hid (∀ X, Calls Tryd.prog 52 #[.int .i64 x.ba, .int .i64 x.lo, .int .i64 x.hi] X fun e w' => e = .returned (.bool Q) ∧ w' = X) := fun X => by rw [hQ]; exact impl_ins _ _ _ X
  have HKK : Hid (K = if M = 0 then (if 0 ≤ A then 1 else if (decide (x.lo < -1000000) || decide (1000000 < x.hi) || decide (x.hi < x.lo) || !Q) = true then 3 else 0) else M) := by unfold Hid; rw [hK, hM, hA, hQ]; rfl
  rw [← hK]
  have HB0 : Hid (Below W.heap.size W (W.alloc (.cells #[.string x.nm, .int .i64 x.lo, .int .i64 x.hi, .int .i64 x.ba] 56))) := by unfold Hid; (repeat' (first | (with_reducible exact Below.refl _ _) | (with_reducible assumption) | (with_reducible refine Below.setCell ?_ ?_ _) | (with_reducible refine Below.alloc ?_ ?_ _) | (with_reducible refine below_drewN ?_ _) | (with_reducible refine Below.drew ?_) | (with_reducible exact Nat.le_refl _) | omega | (simp; done) | (simp; omega)))
  have HK0 : Hid ((W.alloc (.cells #[.string x.nm, .int .i64 x.lo, .int .i64 x.hi, .int .i64 x.ba] 56)).heap[W.heap.size]? = some (.cells #[.string x.nm, .int .i64 x.lo, .int .i64 x.hi, .int .i64 x.ba] 56)) := heap_alloc_new _ _
  clear hK hM hA hQ hx hp
  go_enter Tryd.func31, Tryd.ntmps31
  go_wp2_with (fail)
  refine (HM.out _).mono ?_
  rintro e w1 ⟨rfl, rfl⟩
  clear HM
  by_cases hm : M = 0
  case neg =>
    have hKK := HKK.out
    rw [if_neg hm] at hKK
    clear HKK
    subst hKK
    go_wp2
    go_returns
    exact ⟨rfl, HB0.out⟩
  have HK2 : Hid (K = if 0 ≤ A then 1 else if (decide (x.lo < -1000000) || decide (1000000 < x.hi) || decide (x.hi < x.lo) || !Q) = true then 3 else 0) := by
    have hKK := HKK.out
    rw [if_pos hm] at hKK
    exact hKK
  clear HKK
  subst hm
  go_wp2_with (fail)
  obtain ⟨W0, hW0⟩ : ∃ V, V = W.alloc (.cells #[.string x.nm, .int .i64 x.lo, .int .i64 x.hi, .int .i64 x.ba] 56) := ⟨_, rfl⟩
  rw [← hW0] at HB0 HK0 ⊢
  clear hW0
  refine (HA.out _ HB0.out).mono ?_
  rintro e w2 ⟨rfl, hb2⟩
  have HB2 : Hid (Below W.heap.size W w2) := HB0.out.trans (hb2.mono HB0.out.size)
  obtain ⟨q0, q1, q2, q3, qf, ql⟩ := quad_at ((hb2.block _ (ltQ HK0.out)).trans HK0.out)
  clear hb2 HB0 HA HK0 qf
  by_cases ha : 0 ≤ A
  · have hKK := HK2.out
    rw [if_pos ha] at hKK
    clear HK2
    subst hKK
    go_wp2
    go_returns
    exact ⟨rfl, HB2.out⟩
  have hKK := HK2.out
  clear HK2
  rw [if_neg ha] at hKK
  by_cases h1 : x.lo < -1000000
  · have hk : K = 3 := by rw [hKK, if_pos (by simp [h1])]
    subst hk
    clear hKK
    go_wp2
    go_returns
    exact ⟨rfl, HB2.out⟩
  by_cases h2 : 1000000 < x.hi
  · have hk : K = 3 := by rw [hKK, if_pos (by simp [h2])]
    subst hk
    clear hKK
    go_wp2
    go_returns
    exact ⟨rfl, HB2.out⟩
  by_cases h3 : x.hi < x.lo
  · have hk : K = 3 := by rw [hKK, if_pos (by simp [h3])]
    subst hk
    clear hKK
    go_wp2
    go_returns
    exact ⟨rfl, HB2.out⟩
  have d1 : decide (x.lo < -1000000) = false := decide_eq_false h1
  have d2 : decide (1000000 < x.hi) = false := decide_eq_false h2
  have d3 : decide (x.hi < x.lo) = false := decide_eq_false h3
  rw [d1, d2, d3] at hKK
  clear d1 d2 d3
  cases Q with
  | false =>
    have hk : K = 3 := by rw [hKK]; rfl
    subst hk
    clear hKK
    go_wp2_with (fail)
    refine (HQ.out _).mono ?_
    rintro e w3 ⟨rfl, rfl⟩
    go_wp2
    go_returns
    exact ⟨rfl, HB2.out⟩
  | true =>
    have hk : K = 0 := by rw [hKK]; rfl
    subst hk
    clear hKK
    go_wp2_with (fail)
    refine (HQ.out _).mono ?_
    rintro e w3 ⟨rfl, rfl⟩
    go_wp2
    go_returns
    exact ⟨rfl, HB2.out⟩

end Go.Proofs.YtnljomeacnjmmaaDoor
