/- Proved here: one run rule with borders, of the program. -/
import Derived.Test.YtcdpaokmjoklcaaDoorAaZ
import Derived.Test.YtcdpaokmjoklcaaDoorLwS
import Derived.Deep.DeepCutAuto
namespace Go.Proofs.YtcdpaokmjoklcaaDoor
open Go.RowKit
set_option linter.unusedVariables false
set_option linter.unusedSimpArgs false

/-- How many of t places lie beyond the border on the side of the last one. -/
def muK (f : Nat → Int) (b : Int) (i lo : Nat) : Nat → Nat
  | 0 => 0
  | t + 1 => muK f b i lo t + (if (b < f i ∧ b < f (lo + t)) ∨ (b < -f i ∧ b < -f (lo + t)) then 1 else 0)
theorem muK_le (f : Nat → Int) (b : Int) (i lo t : Nat) : muK f b i lo t ≤ t := by
  induction t with
  | zero => exact Nat.le_refl _
  | succ t ih => rw [muK]; split <;> omega
theorem mu_up {f : Nat → Int} {b : Int} {i lo : Nat} (hb : 0 ≤ b) (h : b < f i) : ∀ t, muK f b i lo t = cu f b lo t := by
  intro t
  induction t with
  | zero => rfl
  | succ t ih =>
    rw [muK, cu, ih]
    by_cases h1 : b < f (lo + t)
    · rw [if_pos (Or.inl ⟨h, h1⟩), if_pos h1]
    · rw [if_neg (by rintro (h2 | h2) <;> omega), if_neg h1]
theorem mu_down {f : Nat → Int} {b : Int} {i lo : Nat} (hb : 0 ≤ b) (h : b < -f i) : ∀ t, muK f b i lo t = cu (fun j => -f j) b lo t := by
  intro t
  induction t with
  | zero => rfl
  | succ t ih =>
    rw [muK, cu, ih]
    by_cases h1 : b < -f (lo + t)
    · rw [if_pos (Or.inr ⟨h, h1⟩), if_pos h1]
    · rw [if_neg (by rintro (h2 | h2) <;> omega), if_neg h1]
theorem mu_none {f : Nat → Int} {b : Int} {i lo : Nat} (h1 : ¬ b < f i) (h2 : ¬ b < -f i) : ∀ t, muK f b i lo t = 0 := by
  intro t
  induction t with
  | zero => rfl
  | succ t ih => rw [muK, ih, if_neg (by rintro (h3 | h3) <;> omega)]
theorem mu_ho {f : Nat → Int} {b : Int} {P m i : Nat} (hb : 0 ≤ b) (hm : 1 ≤ m) : decide (m ≤ muK f b i (i + 1 - min P (i + 1)) (min P (i + 1))) = hoB f b P m i := by
  unfold hoB
  by_cases h1 : b < f i
  · rw [mu_up hb h1, decide_eq_true h1, decide_eq_false (show ¬ b < -f i by omega)]
    simp
  · by_cases h2 : b < -f i
    · rw [mu_down hb h2, decide_eq_true h2, decide_eq_false h1]
      simp
    · rw [mu_none h1 h2, decide_eq_false h1, decide_eq_false h2, decide_eq_false (show ¬ m ≤ 0 by omega)]
      rfl

set_option maxRecDepth 10000 in
set_option maxHeartbeats 6400000 in
theorem impl_ho (R Sr sg : Int) (K P m : Nat) {w : World} {g o n c : Nat} {vb : Value} (f : Nat → Int) (hK : K ≤ 3) (hP : 1 ≤ P ∧ P ≤ 13) (hm : 1 ≤ m ∧ m ≤ 13) (hs : 1 ≤ sg ∧ sg ≤ 100000) (hn : 0 < n ∧ n ≤ 1000) (hc : n ≤ c) (hg : g < w.heap.size)
    (hf : ∀ j, j < n → w.cell? ⟨g, o + j, none⟩ = some (.int .i64 (f j))) (hb : RdI w vb (bsL sg)) :
    Calls Tryd.prog 20 #[.agg #[.int .i64 R, .int .i64 Sr, .int .i64 (K : Nat), .int .i64 (P : Nat), .int .i64 (m : Nat)], .slice (some ⟨g, o, none⟩) n c, vb] w fun e w' => e = .returned (.bool (hoB f ((K : Int) * sg) P m (n - 1))) ∧ Below w.heap.size w w' := by
  obtain ⟨ba, bc, rfl⟩ := hb.form
  have hlen : (bsL sg).length = 4 := rfl
  rw [hlen] at hb ⊢
  obtain ⟨V, hV⟩ : ∃ V, V = w.alloc (.cells #[.int .i64 R, .int .i64 Sr, .int .i64 (K : Nat), .int .i64 (P : Nat), .int .i64 (m : Nat)] 43) := ⟨_, rfl⟩
  have HV : Hid (Below w.heap.size w V ∧ V.heap[w.heap.size]? = some (.cells #[.int .i64 R, .int .i64 Sr, .int .i64 (K : Nat), .int .i64 (P : Nat), .int .i64 (m : Nat)] 43)) := ⟨by rw [hV]; (repeat' (first | (with_reducible exact Below.refl _ _) | (with_reducible assumption) | (with_reducible refine Below.setCell ?_ ?_ _) | (with_reducible refine Below.alloc ?_ ?_ _) | (with_reducible refine below_drewN ?_ _) | (with_reducible refine Below.drew ?_) | (with_reducible exact Nat.le_refl _) | omega | (simp; done) | (simp; omega))), by rw [hV]; exact heap_alloc_new w _⟩
  have HC : Hid (∀ j, j < n → V.cell? ⟨g, o + j, none⟩ = some (.int .i64 (f j))) := fun j hj => by
    have h1 := hf j hj
    have h2 := HV.out.1.block g hg
    simp only [World.cell?] at h1 ⊢
    rw [h2]; exact h1
  have HZ : Hid (∀ x : Int, Calls Tryd.prog 26 #[.int .i64 x, .slice ba 4 bc] V fun e w' => e = .returned (.int .i64 (znK (bsL sg) x 4)) ∧ w' = V) := fun x => by
    have h1 := impl_zn x (bs := bsL sg) (by rw [hlen]; omega) (fun k hk => by
      rw [hlen] at hk
      rcases (by omega : k = 0 ∨ k = 1 ∨ k = 2 ∨ k = 3) with rfl | rfl | rfl | rfl
      · show -10000000 ≤ (0 : Int) ∧ (0 : Int) ≤ 10000000; omega
      · show -10000000 ≤ sg ∧ sg ≤ 10000000; omega
      · show -10000000 ≤ 2 * sg ∧ 2 * sg ≤ 10000000; omega
      · show -10000000 ≤ 3 * sg ∧ 3 * sg ≤ 10000000; omega) (hb.below HV.out.1)
    rw [hlen] at h1
    exact h1
  obtain ⟨i, hi⟩ : ∃ i : Nat, i = n - 1 := ⟨_, rfl⟩
  obtain ⟨T, hT⟩ : ∃ T : Nat, T = min P n := ⟨_, rfl⟩
  obtain ⟨lo, hlo⟩ : ∃ lo : Nat, lo = n - T := ⟨_, rfl⟩
  obtain ⟨b, hbb⟩ : ∃ b : Int, b = (K : Int) * sg := ⟨_, rfl⟩
  have hb0 : 0 ≤ b := by rw [hbb]; exact Int.mul_nonneg (by omega) (by omega)
  obtain ⟨C, hC⟩ : ∃ C : Bool, C = hoB f b P m i := ⟨_, rfl⟩
  rw [← hi, ← hbb, ← hC]
  have HCC : Hid (C = decide (m ≤ muK f b i lo T)) := by
    unfold Hid
    rw [hC, ← mu_ho hb0 hm.1, show i + 1 = n by omega, ← hT, ← hlo]
  obtain ⟨z, hz⟩ : ∃ z, z = znK (bsL sg) (f i) 4 := ⟨_, rfl⟩
  have hzb := znK_bd (bsL sg) (f i) 4
  rw [← hz] at hzb
  have HI : Hid ((((K : Int) < z) ↔ b < f i) ∧ (z < -(K : Int) ↔ b < -f i)) := by rw [hz, hbb]; exact zn_iff hs.1 hK
  have HZi : Hid (Calls Tryd.prog 26 #[.int .i64 (f i), .slice ba 4 bc] V fun e w' => e = .returned (.int .i64 z) ∧ w' = V) := by rw [hz]; exact HZ.out (f i)
  have HL : Hid (T = min P n ∧ lo = n - T ∧ i = n - 1 ∧ b = (K : Int) * sg) := ⟨hT, hlo, hi, hbb⟩
  have ci := HC.out i (by omega)
  obtain ⟨fi, hfi⟩ : ∃ x, x = f i := ⟨_, rfl⟩
  rw [← hfi] at ci HZi
  have hib : i < n ∧ lo + T = n ∧ 1 ≤ T ∧ T ≤ 13 := by omega
  have p0 := cellOf HV.out.2 0 rfl
  have p2 := cellOf HV.out.2 2 rfl
  have p3 := cellOf HV.out.2 3 rfl
  have p4 := cellOf HV.out.2 4 rfl
  have pl := ltOf HV.out.2
  have e1 : IntKind.i64.wrap ((n : Int) - 1) = (i : Int) := by rw [IntKind.wrap_i64]; omega
  have e2 : IntKind.i64.wrap (-(K : Int)) = -(K : Int) := by rw [IntKind.wrap_i64]; omega
  have b0 : (0 : Int) ≤ (i : Int) := by omega
  have b1 : (i : Int) < (n : Int) := by omega
  have HFR : Hid (∀ t, t < T → V.cell? ⟨g, o + lo + t, none⟩ = some (.int .i64 (f (lo + t)))) := fun t ht => by
    have := HC.out (lo + t) (by omega)
    rw [← Nat.add_assoc] at this
    exact this
  clear hi hC hbb hz hf hb hT hfi hb0 hlo
  go_enter Tryd.func20, Tryd.ntmps20
  go_upto_region 1 with fail
  rw [← hV]
  clear hV
  go_wp2_with (fail)
  refine HZi.out.mono ?_
  rintro e w1 ⟨rfl, hw⟩
  subst w1
  obtain ⟨cr, hcr⟩ : ∃ cr : Nat, cr = c - lo := ⟨_, rfl⟩
  have hcr0 : 0 < cr := by omega
  by_cases hPn : P ≤ n
  · have hTP : T = P := by have := HL.out.1; omega
    have e3 : IntKind.i64.wrap ((n : Int) - (P : Int)) = (lo : Int) := by rw [IntKind.wrap_i64]; omega
    have s0 : ¬ (lo : Int) < 0 := by omega
    have s1 : (0 : Int) ≤ (lo : Int) := by omega
    have s2 : (lo : Int) ≤ (n : Int) := by omega
    have s3 : (lo : Int) ≤ (c : Int) := by omega
    have s4 : n - lo = T := by omega
    have s5 : ¬ c - lo = 0 := by omega
    clear hTP hcr
    go_wp2
    try rw [s4]
    go_loopw [8, 29] (fun q p wr => ∃ t : Nat, t ≤ T ∧ q = .int .i64 ((muK f b i lo t : Nat) : Int) ∧ p = .int .i64 t ∧ V = wr) (fun _ p _ => T - (intOf p).toNat)
    case atStart => exact ⟨0, Nat.zero_le _, rfl, rfl, rfl⟩
    case round =>
      obtain ⟨t, ht, rfl, rfl, rfl⟩ := hrel
      obtain ⟨M, hM⟩ : ∃ M : Nat, M = muK f b i lo t := ⟨_, rfl⟩
      have hMb : M ≤ 13 := by rw [hM]; have := muK_le f b i lo t; omega
      rw [← hM]
      have HM : Hid (M = muK f b i lo t) := hM
      clear hM
      by_cases hlt : t < T
      · have c0 := HFR.out t hlt
        obtain ⟨x, hx⟩ : ∃ x, x = f (lo + t) := ⟨_, rfl⟩
        rw [← hx] at c0
        obtain ⟨y, hy⟩ : ∃ z, z = znK (bsL sg) x 4 := ⟨_, rfl⟩
        have hyb := znK_bd (bsL sg) x 4
        rw [← hy] at hyb
        have HY : Hid ((((K : Int) < y) ↔ b < x) ∧ (y < -(K : Int) ↔ b < -x)) := by rw [hy, HL.out.2.2.2]; exact zn_iff hs.1 hK
        have HZx : Hid (Calls Tryd.prog 26 #[.int .i64 x, .slice ba 4 bc] V fun e w' => e = .returned (.int .i64 y) ∧ w' = V) := by rw [hy]; exact HZ.out x
        have HN : Hid (muK f b i lo (t + 1) = M + (if (b < f i ∧ b < x) ∨ (b < -f i ∧ b < -x) then 1 else 0)) := by unfold Hid; rw [muK, HM.out, hx]
        have b2 : (0 : Int) ≤ (t : Int) := by omega
        have b3 : (t : Int) < (T : Int) := by omega
        have e6 : IntKind.i64.wrap ((M : Int) + 1) = (M : Int) + 1 := by rw [IntKind.wrap_i64]; omega
        clear hx hy HM
        go_wp2_with (fail)
        refine HZx.out.mono ?_
        rintro e w1 ⟨rfl, hw⟩
        subst w1
        have HYES : Hid ((((K : Int) < z ∧ (K : Int) < y) ∨ (z < -(K : Int) ∧ y < -(K : Int))) → M + 1 = muK f b i lo (t + 1)) := fun h9 => by
          rw [HN.out, if_pos (by rcases h9 with h9 | h9; exact Or.inl ⟨HI.out.1.1 h9.1, HY.out.1.1 h9.2⟩; exact Or.inr ⟨HI.out.2.1 h9.1, HY.out.2.1 h9.2⟩)]
        have HNO : Hid (¬ (((K : Int) < z ∧ (K : Int) < y) ∨ (z < -(K : Int) ∧ y < -(K : Int))) → M = muK f b i lo (t + 1)) := fun h9 => by
          rw [HN.out, if_neg (by rintro (h8 | h8); exact h9 (Or.inl ⟨HI.out.1.2 h8.1, HY.out.1.2 h8.2⟩); exact h9 (Or.inr ⟨HI.out.2.2 h8.1, HY.out.2.2 h8.2⟩))]; rfl
        clear HN HY HZx
        by_cases h1 : (K : Int) < z
        · have h1b : ¬ z < -(K : Int) := by omega
          by_cases h2 : (K : Int) < y
          · have HE : Hid (M + 1 = muK f b i lo (t + 1)) := HYES.out (by omega)
            clear HYES HNO
            go_wp2
            go_roundw
            case rel => exact ⟨t + 1, by omega, by rw [← HE.out]; go_num, by go_num, by first | rfl | trivial⟩
            case measure => simp [intOf]; omega
          · have HE : Hid (M = muK f b i lo (t + 1)) := HNO.out (by omega)
            clear HYES HNO
            go_wp2
            go_roundw
            case rel => exact ⟨t + 1, by omega, by rw [← HE.out], by go_num, by first | rfl | trivial⟩
            case measure => simp [intOf]; omega
        · by_cases h3 : z < -(K : Int)
          · by_cases h4 : y < -(K : Int)
            · have HE : Hid (M + 1 = muK f b i lo (t + 1)) := HYES.out (by omega)
              clear HYES HNO
              go_wp2
              go_roundw
              case rel => exact ⟨t + 1, by omega, by rw [← HE.out]; go_num, by go_num, by first | rfl | trivial⟩
              case measure => simp [intOf]; omega
            · have HE : Hid (M = muK f b i lo (t + 1)) := HNO.out (by omega)
              clear HYES HNO
              go_wp2
              go_roundw
              case rel => exact ⟨t + 1, by omega, by rw [← HE.out], by go_num, by first | rfl | trivial⟩
              case measure => simp [intOf]; omega
          · have HE : Hid (M = muK f b i lo (t + 1)) := HNO.out (by omega)
            clear HYES HNO
            go_wp2
            go_roundw
            case rel => exact ⟨t + 1, by omega, by rw [← HE.out], by go_num, by first | rfl | trivial⟩
            case measure => simp [intOf]; omega
      · have HE : Hid (C = decide (m ≤ M)) := by
          unfold Hid
          rw [HCC.out, show T = t by omega, ← HM.out]
        have b3 : ¬ (t : Int) < (T : Int) := by omega
        go_wp2
        go_returns
        exact ⟨by rw [HE.out]; try rfl, HV.out.1⟩
  · clear hcr
    obtain ⟨X, hX⟩ : ∃ X : Int, X = (n : Int) - (P : Int) := ⟨_, rfl⟩
    have e3 : IntKind.i64.wrap ((n : Int) - (P : Int)) = X := by rw [← hX, IntKind.wrap_i64]; omega
    have s0 : X < 0 := by omega
    have hTn : T = n := by have := HL.out.1; omega
    have hl0 : lo = 0 := by omega
    subst hTn
    subst hl0
    simp only [Nat.add_zero, Nat.zero_add] at HFR
    clear hX
    go_wp2
    go_loopw [8, 29] (fun q p wr => ∃ t : Nat, t ≤ T ∧ q = .int .i64 ((muK f b i 0 t : Nat) : Int) ∧ p = .int .i64 t ∧ V = wr) (fun _ p _ => T - (intOf p).toNat)
    case atStart => exact ⟨0, Nat.zero_le _, rfl, rfl, rfl⟩
    case round =>
      obtain ⟨t, ht, rfl, rfl, rfl⟩ := hrel
      obtain ⟨M, hM⟩ : ∃ M : Nat, M = muK f b i 0 t := ⟨_, rfl⟩
      have hMb : M ≤ 13 := by rw [hM]; have := muK_le f b i 0 t; omega
      rw [← hM]
      have HM : Hid (M = muK f b i 0 t) := hM
      clear hM
      by_cases hlt : t < T
      · have c0 := HFR.out t hlt
        obtain ⟨x, hx⟩ : ∃ x, x = f t := ⟨_, rfl⟩
        rw [← hx] at c0
        obtain ⟨y, hy⟩ : ∃ z, z = znK (bsL sg) x 4 := ⟨_, rfl⟩
        have hyb := znK_bd (bsL sg) x 4
        rw [← hy] at hyb
        have HY : Hid ((((K : Int) < y) ↔ b < x) ∧ (y < -(K : Int) ↔ b < -x)) := by rw [hy, HL.out.2.2.2]; exact zn_iff hs.1 hK
        have HZx : Hid (Calls Tryd.prog 26 #[.int .i64 x, .slice ba 4 bc] V fun e w' => e = .returned (.int .i64 y) ∧ w' = V) := by rw [hy]; exact HZ.out x
        have HN : Hid (muK f b i 0 (t + 1) = M + (if (b < f i ∧ b < x) ∨ (b < -f i ∧ b < -x) then 1 else 0)) := by unfold Hid; rw [muK, HM.out, hx, Nat.zero_add]
        have b2 : (0 : Int) ≤ (t : Int) := by omega
        have b3 : (t : Int) < (T : Int) := by omega
        have e6 : IntKind.i64.wrap ((M : Int) + 1) = (M : Int) + 1 := by rw [IntKind.wrap_i64]; omega
        clear hx hy HM
        go_wp2_with (fail)
        refine HZx.out.mono ?_
        rintro e w1 ⟨rfl, hw⟩
        subst w1
        have HYES : Hid ((((K : Int) < z ∧ (K : Int) < y) ∨ (z < -(K : Int) ∧ y < -(K : Int))) → M + 1 = muK f b i 0 (t + 1)) := fun h9 => by
          rw [HN.out, if_pos (by rcases h9 with h9 | h9; exact Or.inl ⟨HI.out.1.1 h9.1, HY.out.1.1 h9.2⟩; exact Or.inr ⟨HI.out.2.1 h9.1, HY.out.2.1 h9.2⟩)]
        have HNO : Hid (¬ (((K : Int) < z ∧ (K : Int) < y) ∨ (z < -(K : Int) ∧ y < -(K : Int))) → M = muK f b i 0 (t + 1)) := fun h9 => by
          rw [HN.out, if_neg (by rintro (h8 | h8); exact h9 (Or.inl ⟨HI.out.1.2 h8.1, HY.out.1.2 h8.2⟩); exact h9 (Or.inr ⟨HI.out.2.2 h8.1, HY.out.2.2 h8.2⟩))]; rfl
        clear HN HY HZx
        by_cases h1 : (K : Int) < z
        · have h1b : ¬ z < -(K : Int) := by omega
          by_cases h2 : (K : Int) < y
          · have HE : Hid (M + 1 = muK f b i 0 (t + 1)) := HYES.out (by omega)
            clear HYES HNO
            go_wp2
            go_roundw
            case rel => exact ⟨t + 1, by omega, by rw [← HE.out]; go_num, by go_num, by first | rfl | trivial⟩
            case measure => simp [intOf]; omega
          · have HE : Hid (M = muK f b i 0 (t + 1)) := HNO.out (by omega)
            clear HYES HNO
            go_wp2
            go_roundw
            case rel => exact ⟨t + 1, by omega, by rw [← HE.out], by go_num, by first | rfl | trivial⟩
            case measure => simp [intOf]; omega
        · by_cases h3 : z < -(K : Int)
          · by_cases h4 : y < -(K : Int)
            · have HE : Hid (M + 1 = muK f b i 0 (t + 1)) := HYES.out (by omega)
              clear HYES HNO
              go_wp2
              go_roundw
              case rel => exact ⟨t + 1, by omega, by rw [← HE.out]; go_num, by go_num, by first | rfl | trivial⟩
              case measure => simp [intOf]; omega
            · have HE : Hid (M = muK f b i 0 (t + 1)) := HNO.out (by omega)
              clear HYES HNO
              go_wp2
              go_roundw
              case rel => exact ⟨t + 1, by omega, by rw [← HE.out], by go_num, by first | rfl | trivial⟩
              case measure => simp [intOf]; omega
          · have HE : Hid (M = muK f b i 0 (t + 1)) := HNO.out (by omega)
            clear HYES HNO
            go_wp2
            go_roundw
            case rel => exact ⟨t + 1, by omega, by rw [← HE.out], by go_num, by first | rfl | trivial⟩
            case measure => simp [intOf]; omega
      · have HE : Hid (C = decide (m ≤ M)) := by
          unfold Hid
          rw [HCC.out, show T = t by omega, ← HM.out]
        have b3 : ¬ (t : Int) < (T : Int) := by omega
        go_wp2
        go_returns
        exact ⟨by rw [HE.out]; try rfl, HV.out.1⟩

end Go.Proofs.YtcdpaokmjoklcaaDoor
