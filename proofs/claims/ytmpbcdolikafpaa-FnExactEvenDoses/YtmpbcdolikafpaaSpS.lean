/- Proved here: l6Spread of the model: spL. -/
import Derived.Test.YtmpbcdolikafpaaSeM
import Derived.Test.YtmpbcdolikafpaaDmS
namespace Go.Proofs.Ytmpbcdolikafpaa
open Go.RowKit
set_option linter.unusedVariables false
set_option linter.unusedSimpArgs false

theorem rwK_bd {G : Nat → Nat → Int} (hG : ∀ y x, 0 ≤ G y x ∧ G y x ≤ 40000) {H W r : Nat} {s : Int} (hs : 0 ≤ s ∧ s ≤ 1000) {y x i : Nat} : ∀ k : Nat, 0 ≤ rwK G H W r s y x i k ∧ rwK G H W r s y x i k ≤ k * 40000000
  | 0 => by simp [rwK]
  | k + 1 => by
    have h1 := rwK_bd hG (H := H) (W := W) (r := r) hs (y := y) (x := x) (i := i) k
    have h2 := mul_bd hs (hG (y + i - r) (x + k - r)) (by omega)
    rw [rwK]
    split <;> omega
theorem alK_bd {G : Nat → Nat → Int} (hG : ∀ y x, 0 ≤ G y x ∧ G y x ≤ 40000) {H W r : Nat} {s : Int} (hs : 0 ≤ s ∧ s ≤ 1000) (hr : r ≤ 4) {y x : Nat} : ∀ i : Nat, 0 ≤ alK G H W r s y x i ∧ alK G H W r s y x i ≤ i * 360000000
  | 0 => by simp [alK]
  | i + 1 => by
    have h1 := alK_bd hG (H := H) (W := W) (r := r) hs hr (y := y) (x := x) i
    have h2 := rwK_bd hG (H := H) (W := W) (r := r) hs (y := y) (x := x) (i := i) (2 * r + 1)
    rw [alK]
    omega
theorem seven_l {w : World} {k : Nat} {a b c d e f g : Value} {T : TypeId} (h : w.heap[k]? = some (.cells #[a, b, c, d, e, f, g] T)) :
    w.cell? ⟨k, 4, none⟩ = some e ∧ w.cell? ⟨k, 5, none⟩ = some f ∧ w.cell? ⟨k, 6, none⟩ = some g ∧ k < w.heap.size := by
  obtain ⟨h0, h1, h2, h3, h4, h5, h6, _, hl⟩ := wt_seven h
  exact ⟨h4, h5, h6, hl⟩
/-- What the model reads: the writer, the map. -/
structure SW (w w1 : World) (f : Bx) (o s : Int) (r : Nat) (g1 n c1 W : Nat) (M : List (List Int)) (vs1 : List Value) : Prop where
  b : w1.heap[w.heap.size]? = some (.cells #[.int .i64 f.x0, .int .i64 f.y0, .int .i64 f.x1, .int .i64 f.y1, .int .i64 o, .int .i64 s, .int .i64 r] 36)
  g : GVP w1 (w.heap.size + 1) g1 n c1 W n M vs1
  bl : Below w.heap.size w w1
theorem SW.below {w w1 wr : World} {f : Bx} {o s : Int} {r g1 n c1 W : Nat} {M : List (List Int)} {vs1 : List Value} (h : SW w w1 f o s r g1 n c1 W M vs1) (hb : Below w1.heap.size w1 wr) : SW w wr f o s r g1 n c1 W M vs1 :=
  ⟨(hb.block _ (seven_l h.b).2.2.2).trans h.b, h.g.below hb, h.bl.trans (hb.mono h.bl.size)⟩

set_option maxRecDepth 10000 in
set_option maxHeartbeats 12800000 in
theorem spec_sp (l : List Sh) (f : Bx) (o s : Int) (r : Nat) {w : World} {v : Value} (hl : l.length ≤ 40) (hd : ∀ x ∈ l, 0 ≤ x.d ∧ x.d ≤ 1000) (hf : frF f = 0) (ho : 0 ≤ o ∧ o ≤ 1000) (hs : 0 ≤ s ∧ s ≤ 1000) (hr : r ≤ 4) (h : RG 5 shC w v l) :
    Calls Try.prog 30 #[v, .agg #[.int .i64 f.x0, .int .i64 f.y0, .int .i64 f.x1, .int .i64 f.y1, .int .i64 o, .int .i64 s, .int .i64 r]] w fun e w' => ∃ v' vs, e = .returned v' ∧ RI w' w.heap.size v' (spL l f o s r) vs ∧ Below w.heap.size w w' := by
  have hfb := frF_box hf
  obtain ⟨n, hnn⟩ : ∃ n, n = htN f := ⟨_, rfl⟩
  obtain ⟨W, hWW⟩ : ∃ W, W = wdN f := ⟨_, rfl⟩
  have hnb : n ≤ 24 ∧ 0 < n := by rw [hnn]; unfold htN; omega
  have hWb : W ≤ 24 ∧ 0 < W := by rw [hWW]; unfold wdN; omega
  obtain ⟨M, hM⟩ : ∃ M, M = mapV l f := ⟨_, rfl⟩
  obtain ⟨P, hP⟩ : ∃ P, P = mapG l f := ⟨_, rfl⟩
  obtain ⟨G, hG⟩ : ∃ G, G = spV P n W r o s := ⟨_, rfl⟩
  obtain ⟨a, c, rfl⟩ := h.form
  have HRW : Hid (∀ V, Below w.heap.size w V → Calls Try.prog 44 #[.slice a l.length c, .agg #[.int .i64 f.x0, .int .i64 f.y0, .int .i64 f.x1, .int .i64 f.y1]] V fun e w' => ∃ v' vs, e = .returned v' ∧ RI w' V.heap.size v' M vs ∧ Below V.heap.size V w') := fun V hV => by rw [hM]; exact spec_map l f hl hd hf (h.below hV)
  have HM : Hid (ShW n W M ∧ (∀ y x, 0 ≤ P y x ∧ P y x ≤ 40000) ∧ (∀ y x, y < n → x < W → at2W M y x = P y x) ∧ spL l f o s r = gridL G n W ∧ (∀ y x, y < n → x < W → o * P y x + alK P n W r s y x (2 * r + 1) = G y x)) := by
    refine ⟨by rw [hM, hnn, hWW]; exact gridL_shW _ _ _, by rw [hP]; exact mapG_bd hl hd, fun y x hy hx => ?_, by rw [hG, hP, hnn, hWW]; rfl, fun y x hy hx => by rw [hG]; exact alK_all P o s hy hx⟩
    have e : M = gridL P n W := by rw [hM, hP, hnn, hWW]; rfl
    rw [e, gridL_at2 _ hy hx]
  generalize l.length = ln at HRW ⊢
  generalize spL l f o s r = SL at HM ⊢
  clear h hf hfb hnn hWW hM hd hl hP hG
  obtain ⟨i0, hi0, hz0, hz1, hz2⟩ := info_parts info_row
  obtain ⟨i1, hi1, hy0, hy1, hy2⟩ := info_parts info_i64
  go_enter Try.func30, Try.ntmps30
  go_wp2_with (fail)
  refine (HRW.out _ (by (repeat' (first | (with_reducible exact Below.refl _ _) | (with_reducible assumption) | (with_reducible refine Below.setCell ?_ ?_ _) | (with_reducible refine Below.alloc ?_ ?_ _) | (with_reducible refine below_drewN ?_ _) | (with_reducible refine Below.drew ?_) | (with_reducible exact Nat.le_refl _) | omega | (simp; done) | (simp; omega))))).mono ?_
  rintro e w1 ⟨v1, vs1, rfl, hr1, hb1⟩
  have hl1 : M.length = n := HM.out.1.len
  obtain ⟨g1, c1, hv1, _⟩ := hr1.pos (by omega)
  rw [hl1] at hv1
  subst hv1
  have HG1 : Hid (SW w w1 f o s r g1 n c1 W M vs1) := by
    have hb9 : Below w.heap.size w w1 := (show Below w.heap.size w _ from by (repeat' (first | (with_reducible exact Below.refl _ _) | (with_reducible assumption) | (with_reducible refine Below.setCell ?_ ?_ _) | (with_reducible refine Below.alloc ?_ ?_ _) | (with_reducible refine below_drewN ?_ _) | (with_reducible refine Below.drew ?_) | (with_reducible exact Nat.le_refl _) | omega | (simp; done) | (simp; omega)))).trans (hb1.mono (by simp))
    have hr9 : RI w1 (w.heap.size + 1) (.slice (some ⟨g1, 0, none⟩) n c1) M vs1 := by simpa using hr1
    exact ⟨(hb1.block w.heap.size (by simp)).trans (heap_alloc_new w _), ⟨hr9, hl1, HM.out.1.wd, Nat.le_refl _, hWb.2⟩, hb9⟩
  have HS0 : Hid (RI (w1.alloc (.cells #[] 29)) w1.heap.size (.slice (some ⟨w1.heap.size, 0, none⟩) 0 0) (gridL G 0 W) [] ∧ Below w1.heap.size w1 (w1.alloc (.cells #[] 29))) :=
    ⟨RI.lit0 w1 w1.heap.size (Nat.le_refl _), (Below.refl _ _).alloc (Nat.le_refl _) _⟩
  clear hr1 hb1 HRW hl1
  go_wp2_with (fail)
  go_loopw [6, 7] (fun vr y wr => ∃ (j : Nat) (vs : List Value), j ≤ n ∧ y = .int .i64 j ∧ Hid (RI wr w1.heap.size vr (gridL G j W) vs ∧ Below w1.heap.size w1 wr)) (fun _ y _ => n - (intOf y).toNat)
  case atStart => exact ⟨0, [], Nat.zero_le _, rfl, HS0.out⟩
  case round =>
    clear HS0
    obtain ⟨j, vs, hj, rfl, hR⟩ := hrel
    by_cases hlt : j < n
    · have b0 : (0 : Int) ≤ (j : Int) := by omega
      have b1 : (j : Int) < (n : Int) := by omega
      have HRO : Hid (RI wr w1.heap.size u6 (gridL G j W) vs ∧ Below w1.heap.size w1 wr) := hR.out
      have hszo := hR.out.2.size
      have HQ0 : Hid (IS (wr.alloc (.cells #[] 2)) wr.heap.size (.slice (some ⟨wr.heap.size, 0, none⟩) 0 0) (rowG (G j) 0) ∧ Below wr.heap.size wr (wr.alloc (.cells #[] 2))) := ⟨IS.lit0 _ _ (Nat.le_refl _), (Below.refl _ _).alloc (Nat.le_refl _) _⟩
      obtain ⟨wo, hwo⟩ : ∃ wo, wo = wr := ⟨_, rfl⟩
      rw [← hwo] at HRO HQ0 hszo
      clear hR hj
      go_wp2_with (fail)
      go_loopw [8, 9] (fun vo x wr => ∃ i : Nat, i ≤ W ∧ x = .int .i64 i ∧ Hid (IS wr wo.heap.size vo (rowG (G j) i) ∧ Below wo.heap.size wo wr)) (fun _ x _ => W - (intOf x).toNat)
      case atStart => rw [← hwo]; exact ⟨0, Nat.zero_le _, rfl, HQ0.out⟩
      case round =>
        clear HQ0 hwo
        obtain ⟨i, hi, rfl, hQ⟩ := hrel
        have HX : Hid (SW w wr f o s r g1 n c1 W M vs1) := HG1.out.below (HRO.out.2.trans (hQ.out.2.mono hszo))
        obtain ⟨gi, ci, hri, a0, hg1l, hgil, _, _, _, hcells1⟩ := HX.out.g.at hlt
        by_cases hlx : i < W
        · have c0 : (0 : Int) ≤ (i : Int) := by omega
          have c1' : (i : Int) < (W : Int) := by omega
          obtain ⟨a1, _⟩ := hcells1 i hlx
          obtain ⟨q4, q5, q6, ql⟩ := seven_l HX.out.b
          obtain ⟨D, hD⟩ : ∃ D, D = P j i := ⟨_, rfl⟩
          rw [HM.out.2.2.1 j i hlt hlx, ← hD] at a1
          have hDb := HM.out.2.1 j i
          rw [← hD] at hDb
          have hA := mul_bd ho hDb (by omega)
          obtain ⟨A, hAA⟩ : ∃ A, A = o * D := ⟨_, rfl⟩
          rw [← hAA] at hA
          have hw1 : IntKind.i64.wrap (o * D) = A := by rw [← hAA, IntKind.wrap_i64]; omega
          have hw2 : IntKind.i64.wrap ((j : Int) - (r : Int)) = (j : Int) - (r : Int) := by rw [IntKind.wrap_i64]; omega
          have HA : Hid (A = o * P j i ∧ 0 ≤ A ∧ A ≤ 1000 * 40000) := ⟨by rw [hAA, hD], hA.1, hA.2⟩
          have HQ : Hid (IS wr wo.heap.size u8 (rowG (G j) i) ∧ Below wo.heap.size wo wr) := hQ.out
          obtain ⟨wm, hwm⟩ : ∃ wm, wm = wr := ⟨_, rfl⟩
          rw [← hwm] at HQ
          have HXM : Hid (SW w wm f o s r g1 n c1 W M vs1) := by rw [hwm]; exact HX.out
          clear hQ hi hAA hA hDb hD hcells1 hri HX
          go_wp2_with (fail)
          (refine wp_region_und (by kernel_rfl) (by kernel_rfl) (fun hund => ?_); (repeat (go_big_quiet_step (fail))); with_reducible refine wpQuiet_nil ?_; clear hund; intro W1 hb1; obtain ⟨hc1, hf1⟩ := undcell hb1)
          have HBM : Hid (Below wm.heap.size wm W1) := by rw [hwm]; exact hb1
          have q6' := (hb1.cell (p := ⟨w.heap.size, 6, none⟩) ql).trans q6
          have ql' := Nat.lt_of_lt_of_le ql hb1.size
          clear hb1 hc1 hf1 a0 a1 hg1l hgil q4 q5 q6 ql hwm
          go_wp2_with (fail)
          clear q6' ql'
          go_loopw [10, 11] (fun sm y wr => ∃ q : Nat, q ≤ 2 * r + 1 ∧ y = .int .i64 ((j : Int) - (r : Int) + (q : Int)) ∧ sm = .int .i64 (A + alK P n W r s j i q) ∧ Hid (Below wm.heap.size wm wr)) (fun _ y _ => ((j : Int) + (r : Int) + 1 - intOf y).toNat)
          case atStart => exact ⟨0, Nat.zero_le _, by simp, by simp [alK], HBM.out⟩
          case round =>
            clear HBM
            obtain ⟨q, hq, rfl, rfl, hK⟩ := hrel
            obtain ⟨q4, q5, q6, ql⟩ := seven_l (HXM.out.below hK.out).b
            obtain ⟨Y, hY⟩ : ∃ Y, Y = (j : Int) - (r : Int) + (q : Int) := ⟨_, rfl⟩
            rw [← hY]
            have hw3 : IntKind.i64.wrap ((j : Int) + (r : Int)) = (j : Int) + (r : Int) := by rw [IntKind.wrap_i64]; omega
            by_cases hlq : q < 2 * r + 1
            · have hly : Y ≤ (j : Int) + (r : Int) := by omega
              have hwy : IntKind.i64.wrap (Y + 1) = Y + 1 := by rw [IntKind.wrap_i64]; omega
              have hw4 : IntKind.i64.wrap ((i : Int) - (r : Int)) = (i : Int) - (r : Int) := by rw [IntKind.wrap_i64]; omega
              have HY : Hid (Y = (j : Int) - (r : Int) + (q : Int) ∧ Y + 1 = (j : Int) - (r : Int) + ((q + 1 : Nat) : Int)) := ⟨hY, by omega⟩
              obtain ⟨S0, hS0⟩ : ∃ S, S = A + alK P n W r s j i q := ⟨_, rfl⟩
              rw [← hS0]
              have HS0 : Hid (S0 = A + alK P n W r s j i q ∧ 0 ≤ S0 ∧ S0 ≤ 40000000 + 9 * 360000000) := by
                have h1 := alK_bd HM.out.2.1 (H := n) (W := W) hs hr (y := j) (x := i) q
                have h2 := HA.out
                exact ⟨hS0, by omega, by omega⟩
              have HK : Hid (Below wm.heap.size wm wr) := hK.out
              clear hK hY hq hS0
              go_wp2_with (fail)
              clear q4 q5 q6 ql
              go_loopw [10, 12] (fun sm x wr => ∃ t : Nat, t ≤ 2 * r + 1 ∧ x = .int .i64 ((i : Int) - (r : Int) + (t : Int)) ∧ sm = .int .i64 (S0 + rwK P n W r s j i q t) ∧ Hid (Below wm.heap.size wm wr)) (fun _ x _ => ((i : Int) + (r : Int) + 1 - intOf x).toNat)
              case atStart => exact ⟨0, Nat.zero_le _, by simp, by simp [rwK], HK.out⟩
              case round =>
                clear HK
                obtain ⟨t, ht, rfl, rfl, hK⟩ := hrel
                have HX : Hid (SW w wr f o s r g1 n c1 W M vs1) := HXM.out.below hK.out
                obtain ⟨q4, q5, q6, ql⟩ := seven_l HX.out.b
                obtain ⟨X, hX⟩ : ∃ X, X = (i : Int) - (r : Int) + (t : Int) := ⟨_, rfl⟩
                rw [← hX]
                have hw5 : IntKind.i64.wrap ((i : Int) + (r : Int)) = (i : Int) + (r : Int) := by rw [IntKind.wrap_i64]; omega
                by_cases hlt4 : t < 2 * r + 1
                · have hlx4 : X ≤ (i : Int) + (r : Int) := by omega
                  have hwx : IntKind.i64.wrap (X + 1) = X + 1 := by rw [IntKind.wrap_i64]; omega
                  have HU : Hid (X = (i : Int) - (r : Int) + (t : Int) ∧ X + 1 = (i : Int) - (r : Int) + ((t + 1 : Nat) : Int)) := ⟨hX, by omega⟩
                  obtain ⟨S, hS⟩ : ∃ S, S = S0 + rwK P n W r s j i q t := ⟨_, rfl⟩
                  rw [← hS]
                  have hSb : 0 ≤ S ∧ S ≤ 40000000 + 9 * 360000000 + 9 * 40000000 := by
                    have h1 := rwK_bd HM.out.2.1 (H := n) (W := W) (r := r) hs (y := j) (x := i) (i := q) t
                    have h2 := HS0.out.2
                    omega
                  have HST : Hid (∀ b, (b = if (r ≤ j + q ∧ j + q < n + r) ∧ (r ≤ i + t ∧ i + t < W + r) then s * P (j + q - r) (i + t - r) else 0) → S + b = S0 + rwK P n W r s j i q (t + 1)) := by
                    intro b hb
                    rw [hS, rwK, ← hb]; omega
                  have HK : Hid (Below wm.heap.size wm wr) := hK.out
                  have hYY := HY.out.1
                  clear hS hK ht
                  by_cases k1 : 0 ≤ Y
                  case neg =>
                    have HE : Hid (S = S0 + rwK P n W r s j i q (t + 1)) := by
                      have := HST.out 0 (by rw [if_neg (by omega)])
                      unfold Hid; omega
                    clear HST hX hYY
                    go_wp2
                    go_roundw
                    case rel => exact ⟨t + 1, by omega, by rw [← HU.out.2], by rw [HE.out], HK.out⟩
                    case measure => have := HU.out; simp [intOf]; omega
                  by_cases k2 : Y < (n : Int)
                  case neg =>
                    have HE : Hid (S = S0 + rwK P n W r s j i q (t + 1)) := by
                      have := HST.out 0 (by rw [if_neg (by omega)])
                      unfold Hid; omega
                    clear HST hX hYY
                    go_wp2
                    go_roundw
                    case rel => exact ⟨t + 1, by omega, by rw [← HU.out.2], by rw [HE.out], HK.out⟩
                    case measure => have := HU.out; simp [intOf]; omega
                  by_cases k3 : 0 ≤ X
                  case neg =>
                    have HE : Hid (S = S0 + rwK P n W r s j i q (t + 1)) := by
                      have := HST.out 0 (by rw [if_neg (by omega)])
                      unfold Hid; omega
                    clear HST hX hYY
                    go_wp2
                    go_roundw
                    case rel => exact ⟨t + 1, by omega, by rw [← HU.out.2], by rw [HE.out], HK.out⟩
                    case measure => have := HU.out; simp [intOf]; omega
                  obtain ⟨y, hy⟩ : ∃ y : Nat, Y = (y : Int) := ⟨Y.toNat, by omega⟩
                  obtain ⟨x, hx⟩ : ∃ x : Nat, X = (x : Int) := ⟨X.toNat, by omega⟩
                  have hyn : y < n := by omega
                  subst hy hx
                  obtain ⟨gi, ci, hri, a0, hg1l, hgil, _, _, _, hcells1⟩ := HX.out.g.at hyn
                  by_cases k4 : x < W
                  case neg =>
                    have k5 : ¬ (x : Int) < (W : Int) := by omega
                    have HE : Hid (S = S0 + rwK P n W r s j i q (t + 1)) := by
                      have := HST.out 0 (by rw [if_neg (by omega)])
                      unfold Hid; omega
                    clear HST hX hYY hri hcells1 k4
                    go_wp2
                    go_roundw
                    case rel => exact ⟨t + 1, by omega, by rw [← HU.out.2], by rw [HE.out], HK.out⟩
                    case measure => have := HU.out; simp [intOf]; omega
                  have k5 : (x : Int) < (W : Int) := by omega
                  obtain ⟨a1, _⟩ := hcells1 x k4
                  obtain ⟨D2, hD2⟩ : ∃ D, D = P y x := ⟨_, rfl⟩
                  rw [HM.out.2.2.1 y x hyn k4, ← hD2] at a1
                  have hDb := HM.out.2.1 y x
                  rw [← hD2] at hDb
                  have hB := mul_bd hs hDb (by omega)
                  obtain ⟨B, hBB⟩ : ∃ B, B = s * D2 := ⟨_, rfl⟩
                  rw [← hBB] at hB
                  have hw6 : IntKind.i64.wrap (s * D2) = B := by rw [← hBB, IntKind.wrap_i64]; omega
                  have hw7 : IntKind.i64.wrap (S + B) = S + B := by rw [IntKind.wrap_i64]; omega
                  have HE : Hid (S + B = S0 + rwK P n W r s j i q (t + 1)) := by
                    refine HST.out B ?_
                    rw [if_pos (by omega), hBB, hD2, show j + q - r = y by omega, show i + t - r = x by omega]
                  clear HST hX hYY hri hcells1 k4 hB hBB hDb hD2 hyn
                  go_wp2_with (fail)
                  (refine wp_region_und (by kernel_rfl) (by kernel_rfl) (fun hund => ?_); (repeat (go_big_quiet_step (fail))); with_reducible refine wpQuiet_nil ?_; clear hund; intro W1 hb1; obtain ⟨hc1, hf1⟩ := undcell hb1)
                  have HB9 : Hid (Below wm.heap.size wm W1) := HK.out.trans (hb1.mono HK.out.size)
                  clear hb1 hc1 hf1
                  go_wp2
                  go_roundw
                  case rel => exact ⟨t + 1, by omega, by rw [← HU.out.2], by rw [HE.out], HB9.out⟩
                  case measure => have := HU.out; simp [intOf]; omega
                · have hlx4 : ¬ X ≤ (i : Int) + (r : Int) := by omega
                  have HE : Hid (S0 + rwK P n W r s j i q t = A + alK P n W r s j i (q + 1)) := by
                    unfold Hid
                    rw [alK, HS0.out.1, show t = 2 * r + 1 by omega]; omega
                  have HK : Hid (Below wm.heap.size wm wr) := hK.out
                  rw [HE.out]
                  clear hK ht hX HX
                  go_wp2
                  go_roundw
                  case rel => exact ⟨q + 1, by omega, by rw [← HY.out.2], rfl, HK.out⟩
                  case measure => have := HY.out; simp [intOf]; omega
            · have hly : ¬ Y ≤ (j : Int) + (r : Int) := by omega
              obtain ⟨S, hS⟩ : ∃ S, S = G j i := ⟨_, rfl⟩
              have e : A + alK P n W r s j i q = S := by
                rw [hS, ← HM.out.2.2.2.2 j i hlt hlx, HA.out.1, show q = 2 * r + 1 by omega]
              rw [e]
              have HST : Hid (rowG (G j) (i + 1) = rowG (G j) i ++ [S]) := by unfold Hid; rw [rowG_succ, hS]
              have hlen : (rowG (G j) i).length ≤ 24 := by rw [rowG_len]; omega
              have h5 := HQ.out.1.below' hK.out
              obtain ⟨oa, oc, hof⟩ := h5.form
              subst hof
              have HQ5 : Hid (IS wr wo.heap.size (.slice oa (rowG (G j) i).length oc) (rowG (G j) i) ∧ Below wo.heap.size wo wr) := ⟨h5, HQ.out.2.trans (hK.out.mono HQ.out.2.size)⟩
              have hsz5 := HQ5.out.2.size
              clear h5 hK e hS hY hq
              generalize rowG (G j) i = out at HQ5 HST hlen ⊢
              go_wp2_with (at_builtin; refine wpList_append_own _ rfl _ _ 29 rfl wo.heap.size 2 i1 (.int .i64 0) 1 8 Try.underlying29 hi1 hy0 hy1 hy2 rfl (by decide) _ _ _ rfl (World.ownsRow.alloc HQ5.out.1 _) ⟨wr.heap.size, 0, none⟩ 1 1 [.int .i64 S] rfl rfl (World.news_of_block (cs := #[.int .i64 S]) (t := 2) (fr := (0, 0)) (heap_alloc_new wr _)) (by simp [Value.oneCell']) (by unfold maxLen; omega) (by omega) (by simp; omega) ?_; intro v6 w6 hown6 hgrow6 _)
              have R : Hid (IS w6 wo.heap.size v6 (rowG (G j) (i + 1)) ∧ Below wo.heap.size wo w6) := by
                unfold Hid
                rw [HST.out]
                exact ⟨IS.snocR hown6, (HQ5.out.2.alloc hsz5 _).grown hgrow6 (by simp; omega) (fun k hk => (World.ownsRow.lt HQ5.out.1 k hk).1)⟩
              clear hown6 hgrow6 HQ5 HST HQ q4 q5 q6 ql
              go_wp2
              go_roundw
              case rel => exact ⟨i + 1, by omega, by go_num, R.out⟩
              case measure => simp [intOf]; omega
        · have hlx' : ¬ (i : Int) < (W : Int) := by omega
          have e : i = W := by omega
          obtain ⟨qa, qc, hqf⟩ := hQ.out.1.form
          obtain ⟨ra, rc, hrf⟩ := HRO.out.1.form
          rw [rowG_len] at hqf
          rw [gridL_len] at hrf
          subst hqf hrf
          have HQ5 : Hid (IS wr wo.heap.size (.slice qa i qc) (rowG (G j) W) ∧ Below wo.heap.size wo wr) := by rw [← e]; exact hQ.out
          have HRR : Hid (RI wr w1.heap.size (.slice ra j rc) (gridL G j W) vs) := HRO.out.1.below HQ5.out.2
          have hgl : (gridL G j W).length = j := gridL_len _ _ _
          have HST : Hid (gridL G (j + 1) W = gridL G j W ++ [rowG (G j) W]) := gridL_succ _ _ _
          have hsz5 := HQ5.out.2.size
          have hj24 : j < 24 := by omega
          clear hQ e hcells1 hri HX
          go_wp2_with (at_builtin; refine wpList_append_own _ rfl _ _ 64 rfl w1.heap.size 29 i0 (.slice none 0 0) 1 24 Try.underlying64 hi0 hz0 hz1 hz2 rfl (by decide) _ _ _ rfl (World.ownsRow.alloc HRR.out.o _) ⟨wr.heap.size, 0, none⟩ 1 1 [.slice qa i qc] rfl rfl (World.news_of_block (cs := #[.slice qa i qc]) (t := 29) (fr := (0, 0)) (heap_alloc_new wr _)) (by simp [Value.oneCell']) (by rw [hgl]; unfold maxLen; omega) (by rw [hgl]; omega) (by simp; omega) ?_; intro v6 w6 hown6 hgrow6 _)
          have R : Hid (RI w6 w1.heap.size v6 (gridL G (j + 1) W) (vs ++ [.slice qa i qc]) ∧ Below w1.heap.size w1 w6) := by
            have hne : ∀ k, k < w1.heap.size → some k ≠ (Value.slice ra j rc).ownBlock := fun k hk e => by have := (rowBlk HRR.out.o e.symm).1; omega
            refine ⟨?_, ?_⟩
            · rw [HST.out]
              exact HRO.out.1.push HQ5.out.2 (by omega) HQ5.out.1 hown6 hgrow6
            · exact (HRO.out.2.trans (HQ5.out.2.mono hszo)).trans ⟨hgrow6.os, hgrow6.tape, hgrow6.output, by have := hgrow6.size; simp at this; omega, fun k hk => (hgrow6.block k (by simp; omega) (hne k (by omega))).trans (Below.heap_alloc wr _ _ (by omega))⟩
          clear hown6 hgrow6 HQ5 HRR HST hgl a0 hg1l hgil
          go_wp2
          go_roundw
          case rel => exact ⟨j + 1, _, by omega, by go_num, R.out⟩
          case measure => simp [intOf]; omega
    · have hlt' : ¬ (j : Int) < (n : Int) := by omega
      have e : j = n := by omega
      obtain ⟨ra, rc, hrf⟩ := hR.out.1.form
      rw [gridL_len] at hrf
      subst hrf
      have HE : Hid (RI wr w.heap.size (.slice ra j rc) SL vs ∧ Below w.heap.size w wr) := by
        have h1 := hR.out.1
        refine ⟨?_, HG1.out.bl.trans (hR.out.2.mono HG1.out.bl.size)⟩
        rw [HM.out.2.2.2.1, ← e]
        exact h1.low HG1.out.bl.size
      clear hR e
      go_wp2
      go_returns
      exact ⟨_, rfl, ⟨vs, HE.out.1⟩, HE.out.2⟩

end Go.Proofs.Ytmpbcdolikafpaa
