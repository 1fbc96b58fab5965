/- Proved here: a memory's bars, turnsBy, write, does, of the program. -/
import Derived.Test.YtbjdalcbdbphkaaRmM
import Derived.Test.YtbjdalcbdbphkaaCeQ
import Derived.Deep.Cut
namespace Go.Proofs.Ytbjdalcbdbphkaa
open Go.RowKit
set_option linter.unusedVariables false
set_option linter.unusedSimpArgs false

set_option maxHeartbeats 1600000 in
theorem impl_bars {W : World} {g : Nat} {f : Mf} {m : Nat → Int} (i : Nat) (v : Int) (hi : i < 12) (h : CB W g 110 (mbL f m)) :
    Calls Try.prog 108 #[.pointer (some ⟨g, 0, none⟩), .int .i64 i, .int .i64 v] W fun e w' => e = .returned (.bool (brM f i v)) ∧ w' = W := by
  obtain ⟨l0, l1, l2, l3⟩ := mbL_f f m
  obtain ⟨k0, _, gl⟩ := h.at l0
  have k1 := (h.at l1).1
  have k2 := (h.at l2).1
  have k3 := (h.at l3).1
  obtain ⟨R, hR⟩ : ∃ R, R = brM f i v := ⟨_, rfl⟩
  have HR : Hid (R = if i = f.c then (if f.k = 1 then true else if f.k = 2 then decide (v = 1) else if f.k = 3 then decide (v = 0) else false) else false) := hR
  rw [← hR]
  obtain ⟨K, hK⟩ : ∃ K, K = f.k := ⟨_, rfl⟩
  obtain ⟨c, hc⟩ : ∃ c, c = f.c := ⟨_, rfl⟩
  rw [← hK] at k0 HR
  rw [← hc] at k1 HR
  clear hR h l0 l1 l2 l3 hK hc k2 k3
  by_cases h1 : i = c
  case neg =>
    have h1i : ¬ (i : Int) = (c : Int) := by omega
    have h1b : ((i : Int) != (c : Int)) = true := by simpa using h1i
    have HN : Hid (R = false) := by unfold Hid; rw [HR.out, if_neg h1]
    clear HR
    go_enter Try.func108, Try.ntmps108
    go_wp2
    go_returns
    exact ⟨by rw [HN.out]; rfl, rfl⟩
  subst h1
  have HR2 : Hid (R = if K = 1 then true else if K = 2 then decide (v = 1) else if K = 3 then decide (v = 0) else false) := by unfold Hid; rw [HR.out, if_pos rfl]
  clear HR
  by_cases e1 : K = 1
  · have HN : Hid (R = true) := by unfold Hid; rw [HR2.out, if_pos e1]
    clear HR2
    subst e1
    go_enter Try.func108, Try.ntmps108
    go_wp2
    go_returns
    exact ⟨by rw [HN.out]; rfl, rfl⟩
  have b1 : (K == 1) = false := by simpa using e1
  by_cases e2 : K = 2
  · have HN : Hid (R = decide (v = 1)) := by unfold Hid; rw [HR2.out, if_neg e1, if_pos e2]
    clear HR2 b1 e1
    subst e2
    by_cases hv : v = 1
    · rw [decide_eq_true hv] at HN
      subst hv
      go_enter Try.func108, Try.ntmps108
      go_wp2
      go_returns
      exact ⟨by rw [HN.out]; rfl, rfl⟩
    · rw [decide_eq_false hv] at HN
      have hvb : (v == 1) = false := by simpa using hv
      go_enter Try.func108, Try.ntmps108
      go_wp2
      go_returns
      exact ⟨by rw [HN.out]; rfl, rfl⟩
  have b2 : (K == 2) = false := by simpa using e2
  by_cases e3 : K = 3
  · have HN : Hid (R = decide (v = 0)) := by unfold Hid; rw [HR2.out, if_neg e1, if_neg e2, if_pos e3]
    clear HR2 b1 e1 b2 e2
    subst e3
    by_cases hv : v = 0
    · rw [decide_eq_true hv] at HN
      subst hv
      go_enter Try.func108, Try.ntmps108
      go_wp2
      go_returns
      exact ⟨by rw [HN.out]; rfl, rfl⟩
    · rw [decide_eq_false hv] at HN
      have hvb : (v == 0) = false := by simpa using hv
      go_enter Try.func108, Try.ntmps108
      go_wp2
      go_returns
      exact ⟨by rw [HN.out]; rfl, rfl⟩
  have b3 : (K == 3) = false := by simpa using e3
  have HN : Hid (R = false) := by unfold Hid; rw [HR2.out, if_neg e1, if_neg e2, if_neg e3]
  clear HR2
  go_enter Try.func108, Try.ntmps108
  go_wp2
  go_returns
  exact ⟨by rw [HN.out]; rfl, rfl⟩

set_option maxHeartbeats 3200000 in
theorem impl_tby {W : World} {g : Nat} {f : Mf} {m : Nat → Int} (v : Int) (hc12 : f.c < 12) (hbit : Bit m) (h : CB W g 110 (mbL f m)) :
    Calls Try.prog 109 #[.pointer (some ⟨g, 0, none⟩), .int .i64 v] W fun e w' => e = .returned (.tuple #[]) ∧ CB w' g 110 (mbL f (tuM f m v)) ∧ Only g W w' := by
  obtain ⟨l0, l1, l2, l3⟩ := mbL_f f m
  obtain ⟨k0, _, gl⟩ := h.at l0
  have k1 := (h.at l1).1
  have k2 := (h.at l2).1
  have k3 := (h.at l3).1
  obtain ⟨n0, n1, _⟩ := h.at (mbL_at f m hc12)
  have hb := hbit f.c
  have HB : Hid (∀ x, CB (W.setCell ⟨g, 4 + f.c, none⟩ (.int .i64 x)).drew g 110 (mbL f (up m f.c x)) ∧ Only g W (W.setCell ⟨g, 4 + f.c, none⟩ (.int .i64 x)).drew) := fun x => ⟨by have h9 := h.set (4 + f.c) x; rw [mbL_set] at h9; exact h9, ((Only.refl g W).set _ _).drew⟩
  have H0 : Hid (CB W g 110 (mbL f m)) := h
  obtain ⟨M, hM⟩ : ∃ M, M = tuM f m v := ⟨_, rfl⟩
  have HM : Hid (M = if f.k = 4 then up m f.c f.v else if f.k = 5 then (if v = f.v then up m f.c (1 - m f.c) else m) else m) := hM
  rw [← hM]
  obtain ⟨K, hK⟩ : ∃ K, K = f.k := ⟨_, rfl⟩
  obtain ⟨c, hc⟩ : ∃ c, c = f.c := ⟨_, rfl⟩
  obtain ⟨V, hV⟩ : ∃ V, V = f.v := ⟨_, rfl⟩
  rw [← hK] at k0 HM
  rw [← hc] at k1 HM n0 n1 hb HB hc12
  rw [← hV] at k3 HM
  obtain ⟨b, hbb⟩ : ∃ b, b = m c := ⟨_, rfl⟩
  rw [← hbb] at n0 hb HM
  clear hM h l0 l1 l2 l3 hK hc hV k2 hbb
  have bc : (0 : Int) ≤ (c : Int) := by omega
  have bc2 : (c : Int) < 12 := by omega
  by_cases e4 : K = 4
  · have HN : Hid (M = up m c V) := by unfold Hid; rw [HM.out, if_pos e4]
    have HP := HB.out V
    rw [← HN.out] at HP
    have HPP : Hid _ := HP
    clear HM HP HN HB
    subst e4
    go_enter Try.func109, Try.ntmps109
    go_wp2
    go_region
    go_wp2
    go_returns
    exact ⟨rfl, HPP.out⟩
  have b4 : (K == 4) = false := by simpa using e4
  by_cases e5 : K = 5
  · have HM2 : Hid (M = if v = V then up m c (1 - b) else m) := by unfold Hid; rw [HM.out, if_neg e4, if_pos e5]
    clear HM e4 b4
    subst e5
    by_cases hv : v = V
    · have HN : Hid (M = up m c (1 - b)) := by unfold Hid; rw [HM2.out, if_pos hv]
      have HP := HB.out (1 - b)
      rw [← HN.out] at HP
      have HPP : Hid _ := HP
      clear HM2 HP HN HB
      subst hv
      rcases hb with rfl | rfl
      · go_enter Try.func109, Try.ntmps109
        go_wp2
        go_region
        go_wp2
        go_returns
        exact ⟨rfl, HPP.out⟩
      · go_enter Try.func109, Try.ntmps109
        go_wp2
        go_region
        go_wp2
        go_returns
        exact ⟨rfl, HPP.out⟩
    · have hvb : (v == V) = false := by simpa using hv
      have HN : Hid (M = m) := by unfold Hid; rw [HM2.out, if_neg hv]
      clear HM2
      go_enter Try.func109, Try.ntmps109
      go_wp2
      go_returns
      exact ⟨rfl, by rw [HN.out]; exact H0.out, Only.refl _ _⟩
  have b5 : (K == 5) = false := by simpa using e5
  have HN : Hid (M = m) := by unfold Hid; rw [HM.out, if_neg e4, if_neg e5]
  clear HM
  go_enter Try.func109, Try.ntmps109
  go_wp2
  go_returns
  exact ⟨rfl, by rw [HN.out]; exact H0.out, Only.refl _ _⟩

set_option maxHeartbeats 3200000 in
theorem impl_wr {W : World} {g : Nat} {f : Mf} {m : Nat → Int} (i : Nat) (v : Int) (hi : i < 12) (hv : v = 0 ∨ v = 1) (hc12 : f.c < 12) (hbit : Bit m) (h : CB W g 110 (mbL f m)) :
    Calls Try.prog 99 #[.pointer (some ⟨g, 0, none⟩), .int .i64 i, .int .i64 v] W fun e w' => e = .returned (.tuple #[]) ∧ CB w' g 110 (mbL f (wrM f m i v)) ∧ Only g W w' := by
  obtain ⟨l0, l1, l2, l3⟩ := mbL_f f m
  obtain ⟨k0, _, gl⟩ := h.at l0
  have k1 := (h.at l1).1
  have k2 := (h.at l2).1
  have k3 := (h.at l3).1
  obtain ⟨n0, n1, _⟩ := h.at (mbL_at f m hi)
  obtain ⟨V, hV⟩ : ∃ V, V = W.setCell ⟨g, 4 + i, none⟩ (.int .i64 v) := ⟨_, rfl⟩
  have HB : Hid (CB V g 110 (mbL f (up m i v)) ∧ Only g W V) := by rw [hV]; exact ⟨by have h9 := h.set (4 + i) v; rw [mbL_set] at h9; exact h9, (Only.refl g W).set _ _⟩
  have H0 : Hid (CB W g 110 (mbL f m)) := h
  obtain ⟨M, hM⟩ : ∃ M, M = wrM f m i v := ⟨_, rfl⟩
  obtain ⟨q, hq⟩ : ∃ q, q = brM f i v := ⟨_, rfl⟩
  have HM : Hid (M = if m i = v then m else if q = true then m else if (i : Int) = f.b then tuM f (up m i v) v else up m i v) := by unfold Hid; rw [hM, hq]; rfl
  have HQ : Hid (Calls Try.prog 108 #[.pointer (some ⟨g, 0, none⟩), .int .i64 i, .int .i64 v] W fun e w' => e = .returned (.bool q) ∧ w' = W) := by rw [hq]; exact impl_bars i v hi h
  have HT : Hid (Calls Try.prog 109 #[.pointer (some ⟨g, 0, none⟩), .int .i64 v] V fun e w' => e = .returned (.tuple #[]) ∧ CB w' g 110 (mbL f (tuM f (up m i v) v)) ∧ Only g V w') := impl_tby v hc12 (up_bit hbit hv) HB.out.1
  rw [← hM]
  obtain ⟨b, hb⟩ : ∃ b, b = f.b := ⟨_, rfl⟩
  obtain ⟨x, hx⟩ : ∃ x, x = m i := ⟨_, rfl⟩
  rw [← hb] at HM k2
  rw [← hx] at n0 HM
  have HV2 : Hid (V.cell? ⟨g, 2, none⟩ = some (.int .i64 b) ∧ g < V.heap.size) := by
    obtain ⟨_, _, u2, _⟩ := mbL_f f (up m i v)
    have h9 := HB.out.1.at u2
    rw [← hb] at h9
    exact ⟨h9.1, h9.2.2⟩
  clear hM hq h l0 l1 l2 l3 hb hx k0 k1 k3
  have bi : (0 : Int) ≤ (i : Int) := by omega
  have bi2 : (i : Int) < 12 := by omega
  by_cases e1 : x = v
  · have HN : Hid (M = m) := by unfold Hid; rw [HM.out, if_pos e1]
    clear HM
    subst e1
    go_enter Try.func99, Try.ntmps99
    go_wp2
    go_returns
    exact ⟨rfl, by rw [HN.out]; exact H0.out, Only.refl _ _⟩
  have b1 : (x == v) = false := by simpa using e1
  go_enter Try.func99, Try.ntmps99
  go_wp2_with (fail)
  refine HQ.out.mono ?_
  rintro e w1 ⟨rfl, hw⟩
  subst w1
  clear HQ
  cases q
  case true =>
    have HN : Hid (M = m) := by unfold Hid; rw [HM.out, if_neg e1, if_pos rfl]
    clear HM
    go_wp2
    go_returns
    exact ⟨rfl, by rw [HN.out]; exact H0.out, Only.refl _ _⟩
  have HM2 : Hid (M = if (i : Int) = b then tuM f (up m i v) v else up m i v) := by unfold Hid; rw [HM.out, if_neg e1, if_neg (by decide)]
  clear HM
  go_upto_region 2 with (fail)
  rw [← hV]
  have k2v := HV2.out.1
  have glv := HV2.out.2
  clear k2 n0 n1 gl hV
  by_cases e2 : (i : Int) = b
  · have HN : Hid (M = tuM f (up m i v) v) := by unfold Hid; rw [HM2.out, if_pos e2]
    clear HM2
    subst e2
    go_wp2_with (fail)
    refine HT.out.mono ?_
    rintro e w2 ⟨rfl, h1, h2⟩
    have HP : Hid (CB w2 g 110 (mbL f M) ∧ Only g W w2) := ⟨by rw [HN.out]; exact h1, HB.out.2.trans h2⟩
    clear h1 h2 HT HB
    go_wp2
    go_returns
    exact ⟨rfl, HP.out⟩
  · have HN : Hid (M = up m i v) := by unfold Hid; rw [HM2.out, if_neg e2]
    have b2 : ((i : Int) == b) = false := by simpa using e2
    clear HM2
    go_wp2
    go_returns
    exact ⟨rfl, by rw [HN.out]; exact HB.out.1, HB.out.2⟩

set_option maxHeartbeats 3200000 in
theorem impl_do {W : World} {g : Nat} {f : Mf} {m : Nat → Int} (op : Int) (i : Nat) (hi : i < 12) (hop : 0 ≤ op ∧ op ≤ 3) (hc12 : f.c < 12) (hbit : Bit m) (h : CB W g 110 (mbL f m)) :
    Calls Try.prog 84 #[.pointer (some ⟨g, 0, none⟩), .int .i64 op, .int .i64 i] W fun e w' => e = .returned (.bool (okM m op i)) ∧ CB w' g 110 (mbL f (nxM f m op i)) ∧ Only g W w' := by
  obtain ⟨n0, n1, gl⟩ := h.at (mbL_at f m hi)
  have H0 : Hid (CB W g 110 (mbL f m)) := h
  have HW : Hid (∀ v, v = 0 ∨ v = 1 → Calls Try.prog 99 #[.pointer (some ⟨g, 0, none⟩), .int .i64 i, .int .i64 v] W fun e w' => e = .returned (.tuple #[]) ∧ CB w' g 110 (mbL f (wrM f m i v)) ∧ Only g W w') := fun v hv => impl_wr i v hi hv hc12 hbit h
  obtain ⟨x, hx⟩ : ∃ x, x = m i := ⟨_, rfl⟩
  have HX : Hid (x = m i) := hx
  rw [← hx] at n0
  clear h hx
  have bi : (0 : Int) ≤ (i : Int) := by omega
  have bi2 : (i : Int) < 12 := by omega
  rcases (by omega : op = 0 ∨ op = 1 ∨ op = 2 ∨ op = 3) with rfl | rfl | rfl | rfl
  · have HN : Hid (okM m 0 i = decide (x = 0) ∧ nxM f m 0 i = m) := ⟨by rw [HX.out]; rfl, rfl⟩
    rw [HN.out.1, HN.out.2]
    by_cases hx0 : x = 0
    · rw [decide_eq_true hx0]
      subst hx0
      go_enter Try.func84, Try.ntmps84
      go_wp2
      go_returns
      exact ⟨rfl, H0.out, Only.refl _ _⟩
    · rw [decide_eq_false hx0]
      have hxb : (x == 0) = false := by simpa using hx0
      go_enter Try.func84, Try.ntmps84
      go_wp2
      go_returns
      exact ⟨rfl, H0.out, Only.refl _ _⟩
  · have HN : Hid (okM m 1 i = decide (x = 1) ∧ nxM f m 1 i = m) := ⟨by rw [HX.out]; rfl, rfl⟩
    rw [HN.out.1, HN.out.2]
    by_cases hx0 : x = 1
    · rw [decide_eq_true hx0]
      subst hx0
      go_enter Try.func84, Try.ntmps84
      go_wp2
      go_returns
      exact ⟨rfl, H0.out, Only.refl _ _⟩
    · rw [decide_eq_false hx0]
      have hxb : (x == 1) = false := by simpa using hx0
      go_enter Try.func84, Try.ntmps84
      go_wp2
      go_returns
      exact ⟨rfl, H0.out, Only.refl _ _⟩
  · have HN : Hid (okM m 2 i = true ∧ nxM f m 2 i = wrM f m i 0) := ⟨rfl, rfl⟩
    rw [HN.out.1, HN.out.2]
    go_enter Try.func84, Try.ntmps84
    go_wp2_with (fail)
    refine (HW.out 0 (Or.inl rfl)).mono ?_
    rintro e w2 ⟨rfl, h1, h2⟩
    have HP : Hid (CB w2 g 110 (mbL f (wrM f m i 0)) ∧ Only g W w2) := ⟨h1, h2⟩
    clear h1 h2 HW
    go_wp2
    go_returns
    exact ⟨rfl, HP.out⟩
  · have HN : Hid (okM m 3 i = true ∧ nxM f m 3 i = wrM f m i 1) := ⟨rfl, rfl⟩
    rw [HN.out.1, HN.out.2]
    go_enter Try.func84, Try.ntmps84
    go_wp2_with (fail)
    refine (HW.out 1 (Or.inr rfl)).mono ?_
    rintro e w2 ⟨rfl, h1, h2⟩
    have HP : Hid (CB w2 g 110 (mbL f (wrM f m i 1)) ∧ Only g W w2) := ⟨h1, h2⟩
    clear h1 h2 HW
    go_wp2
    go_returns
    exact ⟨rfl, HP.out⟩

end Go.Proofs.Ytbjdalcbdbphkaa
