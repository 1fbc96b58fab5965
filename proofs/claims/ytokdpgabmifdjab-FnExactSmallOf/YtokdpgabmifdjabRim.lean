/- Proved here: RimOf of program and model: one answer at every list of boxes. -/
import Derived.Test.YtokdpgabmifdjabIForm
import Derived.Test.YtokdpgabmifdjabRimMath
namespace Go.Proofs.Ytokdpgabmifdjab
open Go.RowKit
set_option linter.unusedVariables false
set_option linter.unusedSimpArgs false

theorem shapeK_zero {s : List Bx} (h : shapeK s = 0) : boxesK s = 0 ∧ inForm s.length [] s = true := by
  unfold shapeK at h
  split at h
  · rename_i h0
    split at h
    · rename_i h1; exact ⟨h0, h1⟩
    · cases h
  · rename_i h0; exact absurd h h0

def Good (s : List Bx) : Prop := ∀ b ∈ s, b.x0 < b.x1 ∧ b.y0 < b.y1 ∧ -10000 ≤ b.x0 ∧ -10000 ≤ b.y0 ∧ b.x1 ≤ 10000 ∧ b.y1 ≤ 10000
theorem Good.at {s : List Bx} (h : Good s) {k : Nat} (hk : k < s.length) {b : Bx} (hb : b = bat s k) : b.x0 < b.x1 ∧ b.y0 < b.y1 ∧ -10000 ≤ b.x0 ∧ -10000 ≤ b.y0 ∧ b.x1 ≤ 10000 ∧ b.y1 ≤ 10000 := by
  rw [hb, bat_get hk]; exact h _ (List.getElem_mem _)
theorem ovB_bd {a b : Bx} (ha : -10000 ≤ a.x0 ∧ a.x1 ≤ 10000) : 0 ≤ ovB a b ∧ ovB a b ≤ 20000 := by
  unfold ovB maxI minI
  repeat' split
  all_goals omega
theorem fB_bd {s : List Bx} (h : Good s) {a b : Bx} (ha : a ∈ s) : 0 ≤ fB a b ∧ fB a b ≤ 20000 := by
  unfold fB
  split
  · have := h a ha; exact ovB_bd ⟨this.2.2.1, this.2.2.2.2.1⟩
  · omega
theorem perB_bd {s : List Bx} (h : Good s) {a : Bx} (ha : a ∈ s) : 0 ≤ perB a ∧ perB a ≤ 80000 := by
  have := h a ha
  unfold perB
  omega
theorem sub_bd {l s : List Bx} (h : Good s) (hs : ∀ b ∈ l, b ∈ s) (hl : l.length ≤ 150) : 0 ≤ sumB perB l ∧ sumB perB l ≤ 12000000 := by
  have := sumB_bd (m := 80000) (g := perB) (s := l) fun b hb => perB_bd h (hs b hb)
  omega
theorem subF_bd {l s : List Bx} (h : Good s) (hs : ∀ b ∈ l, b ∈ s) (hl : l.length ≤ 150) (b : Bx) : 0 ≤ sumB (fun a => fB a b) l ∧ sumB (fun a => fB a b) l ≤ 3000000 := by
  have := sumB_bd (m := 20000) (g := fun a => fB a b) (s := l) fun a ha => fB_bd h (hs a ha)
  omega
theorem subG_bd {l s : List Bx} (h : Good s) {b : Bx} (hb : b ∈ s) (hl : l.length ≤ 150) : 0 ≤ sumB (fB b) l ∧ sumB (fB b) l ≤ 3000000 := by
  have := sumB_bd (m := 20000) (g := fB b) (s := l) fun a ha => fB_bd h hb
  omega
theorem pairs_bd {s : List Bx} (h : Good s) : ∀ (l : List Bx), (∀ b ∈ l, b ∈ s) → l.length ≤ 150 → 0 ≤ pairs l ∧ pairs l ≤ 3000000 * (l.length : Int) := by
  intro l
  induction l with
  | nil => intro _ _; simp [pairs]
  | cons b t ih =>
    intro hs hl
    simp only [List.length_cons] at hl
    have h1 := ih (fun q hq => hs q (by simp [hq])) (by omega)
    have h2 := subG_bd (l := t) h (hs b (by simp)) (by omega)
    simp only [pairs, List.length_cons]
    omega

set_option maxHeartbeats 400000 in
theorem spec_min (a b : Int) (w : World) : Calls Try.prog 59 #[.int .i64 a, .int .i64 b] w fun e w' => e = .returned (.int .i64 (minI a b)) ∧ w' = w := by
  unfold minI
  by_cases h : a < b
  · rw [if_pos h]
    go_enter Try.func59, Try.ntmps59
    go_wp2
    go_returns
    exact ⟨rfl, rfl⟩
  · rw [if_neg h]
    go_enter Try.func59, Try.ntmps59
    go_wp2
    go_returns
    exact ⟨rfl, rfl⟩
set_option maxHeartbeats 400000 in
theorem spec_max (a b : Int) (w : World) : Calls Try.prog 58 #[.int .i64 a, .int .i64 b] w fun e w' => e = .returned (.int .i64 (maxI a b)) ∧ w' = w := by
  unfold maxI
  by_cases h : b < a
  · rw [if_pos h]
    go_enter Try.func58, Try.ntmps58
    go_wp2
    go_returns
    exact ⟨rfl, rfl⟩
  · rw [if_neg h]
    go_enter Try.func58, Try.ntmps58
    go_wp2
    go_returns
    exact ⟨rfl, rfl⟩

/-- The result's block, behind a call. -/
theorem res_kept {w w1 : World} {o : Obj} (hb : Below (w.alloc o).heap.size (w.alloc o) w1) : w1.heap[w.heap.size]? = some o ∧ w.heap.size < w1.heap.size ∧ Below w.heap.size w w1 := by
  have h1 := hb.size
  simp at h1
  refine ⟨(hb.block _ (by simp)).trans (heap_alloc_new w o), by omega, ?_⟩
  exact ((Below.refl _ _).alloc (Nat.le_refl _) _).trans (hb.mono (by simp))
theorem res_next {w1 w2 : World} {k : Nat} {o : Obj} (h : w1.heap[k]? = some o) (hb : Below w1.heap.size w1 w2) : w2.heap[k]? = some o := by
  have hk : k < w1.heap.size := by
    rcases Nat.lt_or_ge k w1.heap.size with h' | h'
    · exact h'
    · rw [Array.getElem?_eq_none h'] at h; cases h
  exact (hb.block k hk).trans h
theorem two_cells {w : World} {k : Nat} {a b : Value} {t : TypeId} (h : w.heap[k]? = some (.cells #[a, b] t)) : w.cell? ⟨k, 0, none⟩ = some a ∧ w.cell? ⟨k, 1, none⟩ = some b ∧ w.frozen? ⟨k, 0, none⟩ = false ∧ w.frozen? ⟨k, 1, none⟩ = false ∧ k < w.heap.size := by
  refine ⟨by simp [World.cell?, h], by simp [World.cell?, h], by simp [World.frozen?, h], by simp [World.frozen?, h], ?_⟩
  rcases Nat.lt_or_ge k w.heap.size with h' | h'
  · exact h'
  · rw [Array.getElem?_eq_none h'] at h; cases h

def rimV (s : List Bx) : Int := if shapeK s = 0 then rimS s else 0

set_option maxRecDepth 10000 in
set_option maxHeartbeats 3200000 in
theorem spec_rimOf {w : World} {v : Value} {s : List Bx} (h : RB w v s) :
    Calls Try.prog 29 #[v] w fun e w' => e = .returned (.agg #[.int .i64 (shapeK s), .int .i64 (rimV s)]) ∧ Below w.heap.size w w' := by
  obtain ⟨a, c, rfl⟩ := h.form
  have H : Hid (RB w (.slice a s.length c) s) := h
  clear h
  obtain ⟨z, hz⟩ : ∃ z, z = shapeK s := ⟨_, rfl⟩
  have HZ : Hid (z = shapeK s) := hz
  rw [← hz]
  clear hz
  by_cases hz0 : z = 0
  · have hbz := boxesK_zero (shapeK_zero (show shapeK s = 0 by rw [← HZ.out]; exact hz0)).1
    have HL : Hid (s.length ≤ 150 ∧ Good s) := ⟨hbz.1, hbz.2⟩
    have HE : Hid (rimV s = rimS s) := by unfold Hid rimV; rw [if_pos (by rw [← HZ.out]; exact hz0)]
    clear hbz
    subst hz0
    obtain ⟨n, hn⟩ : ∃ n, n = s.length := ⟨_, rfl⟩
    have HN : Hid (n = s.length) := hn
    have hn150 : n ≤ 150 := by rw [hn]; exact HL.out.1
    rw [← hn] at H ⊢
    clear hn
    go_enter Try.func29, Try.ntmps29
    go_wp2_with (fail)
    refine (spec_shape (H.out.below ((Below.refl _ _).alloc (Nat.le_refl _) _))).mono ?_
    rintro e w1 ⟨rfl, hb1⟩
    rw [← HZ.out]
    obtain ⟨hk1, hlt1, hB1⟩ := res_kept hb1
    have HK1 : Hid (w1.heap[w.heap.size]? = some (.cells #[.int .i64 0, .int .i64 0] 45) ∧ Below w.heap.size w w1) := ⟨hk1, hB1⟩
    clear hb1 hk1 hB1
    go_wp2_with (fail)
    go_loopw [4, 5] (fun q i wr => ∃ (k : Nat) (x : Int), k ≤ n ∧ i = .int .i64 k ∧ q = .int .i64 x ∧ -2000000000 ≤ x ∧ x ≤ 2000000000 ∧ Hid (x = sumB perB (s.take k) - 2 * pairs (s.take k) ∧ Below w1.heap.size w1 wr)) (fun _ i _ => n - (intOf i).toNat)
    case atStart => exact ⟨0, 0, Nat.zero_le _, rfl, rfl, by omega, by omega, rfl, Below.refl _ _⟩
    case round =>
      obtain ⟨k, x, hk, rfl, rfl, hx0, hx1, hR⟩ := hrel
      by_cases hlt : k < n
      · obtain ⟨g, o, c2, he, hg, hj⟩ := ((H.out.below HK1.out.2).below hR.out.2).pos (by rw [← HN.out]; omega)
        injection he with e1 e2 e3
        clear e2
        subst e1 e3
        have hkl : k < s.length := by rw [← HN.out]; exact hlt
        obtain ⟨c0, c1, c2, c3⟩ := hj k hkl
        obtain ⟨b, hb⟩ : ∃ b, b = bat s k := ⟨_, rfl⟩
        rw [← hb] at c0 c1 c2 c3
        have hgb := HL.out.2.at hkl hb
        have HB : Hid (b = bat s k) := hb
        have HJ : Hid (∀ j, j < s.length → BAt wr g (o + j * 4) (bat s j)) := hj
        have hw1 : IntKind.i64.wrap (b.x1 - b.x0) = b.x1 - b.x0 := by rw [IntKind.wrap_i64]; omega
        have hw2 : IntKind.i64.wrap (b.y1 - b.y0) = b.y1 - b.y0 := by rw [IntKind.wrap_i64]; omega
        have hw3 : IntKind.i64.wrap (2 * (b.x1 - b.x0)) = 2 * (b.x1 - b.x0) := by rw [IntKind.wrap_i64]; omega
        have hw4 : IntKind.i64.wrap (2 * (b.y1 - b.y0)) = 2 * (b.y1 - b.y0) := by rw [IntKind.wrap_i64]; omega
        have hw5 : IntKind.i64.wrap (x + 2 * (b.x1 - b.x0)) = x + 2 * (b.x1 - b.x0) := by rw [IntKind.wrap_i64]; omega
        have hw6 : IntKind.i64.wrap (x + 2 * (b.x1 - b.x0) + 2 * (b.y1 - b.y0)) = x + 2 * (b.x1 - b.x0) + 2 * (b.y1 - b.y0) := by rw [IntKind.wrap_i64]; omega
        have HX : Hid (x = sumB perB (s.take k) - 2 * pairs (s.take k) ∧ Below w1.heap.size w1 wr) := hR.out
        have HST : Hid (sumB perB (s.take (k + 1)) = sumB perB (s.take k) + perB b ∧ pairs (s.take (k + 1)) = pairs (s.take k) + sumB (fun a => fB a b) (s.take k)) := by
          unfold Hid
          rw [take_bat hkl, sumB_append, pairs_snoc, ← hb]
          exact ⟨by simp [sumB], rfl⟩
        have hbds : Hid (0 ≤ sumB perB (s.take k) ∧ sumB perB (s.take k) ≤ 12000000 ∧ 0 ≤ pairs (s.take k) ∧ pairs (s.take k) ≤ 450000000 ∧ ∀ j, 0 ≤ sumB (fun a => fB a b) (s.take j) ∧ sumB (fun a => fB a b) (s.take j) ≤ 3000000) := by
          have h0 : ∀ j, (s.take j).length ≤ 150 := fun j => by have := HL.out.1; simp; omega
          have h1 := sub_bd (l := s.take k) HL.out.2 (fun q hq => List.mem_of_mem_take hq) (h0 k)
          have h2 := pairs_bd HL.out.2 (s.take k) (fun q hq => List.mem_of_mem_take hq) (h0 k)
          have h3 := h0 k
          refine ⟨h1.1, h1.2, h2.1, by omega, fun j => subF_bd HL.out.2 (fun q hq => List.mem_of_mem_take hq) (h0 j) b⟩
        clear hb hj hR
        have b0 : (0 : Int) ≤ (k : Int) := by omega
        have b1 : (k : Int) < (n : Int) := by omega
        go_wp2_with (fail)
        go_quiet (fail)
        clear hw1 hw2 hw3 hw4 hw5 hw6
        have hy0 : Hid (x + 2 * (b.x1 - b.x0) + 2 * (b.y1 - b.y0) = sumB perB (s.take k) + perB b - 2 * (pairs (s.take k) + sumB (fun a => fB a b) (s.take 0))) := by
          unfold Hid; rw [HX.out.1]; simp only [List.take_zero, sumB, perB]; omega
        go_wp2_with (fail)
        go_loopw [4, 6] (fun q i w' => ∃ (j : Nat) (y : Int), j ≤ k ∧ i = .int .i64 j ∧ q = .int .i64 y ∧ Hid (y = sumB perB (s.take k) + perB b - 2 * (pairs (s.take k) + sumB (fun a => fB a b) (s.take j)) ∧ Below wr.heap.size wr w')) (fun _ i _ => k - (intOf i).toNat)
        case atStart => exact ⟨0, _, Nat.zero_le _, rfl, rfl, hy0.out, below_drewN (Below.refl _ _) _⟩
        case round =>
          obtain ⟨j, y, hjk, rfl, rfl, hR2⟩ := hrel
          by_cases hlt2 : j < k
          · have hjl : j < s.length := by rw [← HN.out]; omega
            obtain ⟨d0, d1, d2, d3⟩ := (HJ.out j hjl).below hg hR2.out.2
            obtain ⟨m0, m1, m2, m3⟩ := (HJ.out k (by rw [← HN.out]; exact hlt)).below hg hR2.out.2
            rw [← HB.out] at m0 m1 m2 m3
            obtain ⟨t, ht⟩ : ∃ t, t = bat s j := ⟨_, rfl⟩
            rw [← ht] at d0 d1 d2 d3
            have hgt := HL.out.2.at hjl ht
            have hsz := hR2.out.2.size
            have hgw : g < wr.heap.size := by omega
            have HY : Hid (sumB (fun a => fB a b) (s.take (j + 1)) = sumB (fun a => fB a b) (s.take j) + fB t b) := by
              unfold Hid; rw [take_bat hjl, sumB_append, ← ht]; simp [sumB]
            have hyb : -2000000000 ≤ y ∧ y ≤ 2000000000 := by
              have h1 := hbds.out
              have h2 := h1.2.2.2.2 j
              have h3 : perB b = 2 * (b.x1 - b.x0) + 2 * (b.y1 - b.y0) := rfl
              have h4 := hR2.out.1
              omega
            have e0 : (0 : Int) ≤ (j : Int) := by omega
            have e1 : (j : Int) < (n : Int) := by omega
            have e2 : (j : Int) < (k : Int) := by omega
            clear c0 c1 c2 c3 ht
            by_cases hq : t.y1 = b.y0
            rotate_left
            · have HF : Hid (fB t b = 0) := by unfold Hid fB; rw [if_neg hq]
              go_wp2_with (fail)
              go_quiet (fail)
              have HR3 : Hid (∀ q, y = sumB perB (s.take k) + perB b - 2 * (pairs (s.take k) + sumB (fun a => fB a b) (s.take (j + 1))) ∧ Below _ _ (wr.drewN q)) := fun q => ⟨by rw [HY.out, HF.out]; have := hR2.out.1; omega, below_drewN hR2.out.2 q⟩
              go_wp2
              go_roundw
              case rel => exact ⟨j + 1, y, by omega, by go_num, rfl, HR3.out _⟩
              case measure => simp [intOf]; omega
            · obtain ⟨p, hp⟩ : ∃ p, p = minI b.x1 t.x1 := ⟨_, rfl⟩
              obtain ⟨q, hqq⟩ : ∃ q, q = maxI b.x0 t.x0 := ⟨_, rfl⟩
              obtain ⟨r, hr⟩ : ∃ r, r = maxI 0 (p - q) := ⟨_, rfl⟩
              have HF : Hid (fB t b = r) := by
                unfold Hid fB
                rw [if_pos hq, ovB_comm, hr, hp, hqq]; rfl
              have hpb : -10000 ≤ p ∧ p ≤ 10000 := by rw [hp]; unfold minI; split <;> omega
              have hqb : -10000 ≤ q ∧ q ≤ 10000 := by rw [hqq]; unfold maxI; split <;> omega
              have hrb : 0 ≤ r ∧ r ≤ 20000 := by rw [hr]; unfold maxI; split <;> omega
              have k1 : Hid (∀ W, Calls Try.prog 59 #[.int .i64 b.x1, .int .i64 t.x1] W fun e w' => e = .returned (.int .i64 p) ∧ w' = W) := fun W => by rw [hp]; exact spec_min _ _ W
              have k2 : Hid (∀ W, Calls Try.prog 58 #[.int .i64 b.x0, .int .i64 t.x0] W fun e w' => e = .returned (.int .i64 q) ∧ w' = W) := fun W => by rw [hqq]; exact spec_max _ _ W
              have k3 : Hid (∀ W, Calls Try.prog 58 #[.int .i64 0, .int .i64 (p - q)] W fun e w' => e = .returned (.int .i64 r) ∧ w' = W) := fun W => by rw [hr]; exact spec_max _ _ W
              have w5 : IntKind.i64.wrap (p - q) = p - q := by rw [IntKind.wrap_i64]; omega
              have w6 : IntKind.i64.wrap (2 * r) = 2 * r := by rw [IntKind.wrap_i64]; omega
              have w7 : IntKind.i64.wrap (y - 2 * r) = y - 2 * r := by rw [IntKind.wrap_i64]; omega
              clear hp hqq hr
              go_wp2_with (fail)
              go_quiet (fail)
              have HR3 : Hid (∀ V, Below wr.heap.size wr V → y - 2 * r = sumB perB (s.take k) + perB b - 2 * (pairs (s.take k) + sumB (fun a => fB a b) (s.take (j + 1))) ∧ Below _ _ V) := fun V hV => ⟨by rw [HY.out, HF.out]; have := hR2.out.1; omega, hR2.out.2.trans (hV.mono hsz)⟩
              obtain ⟨V0, hV0⟩ : ∃ V0, V0 = wr.drewN nq := ⟨_, rfl⟩
              rw [← hV0]
              have hbV : Below wr.heap.size wr V0 := by rw [hV0]; exact below_drewN (Below.refl _ _) _
              rw [← hbV.cell (p := ⟨g, o + j * 4, none⟩) hgw] at d0
              rw [← hbV.cell (p := ⟨g, o + j * 4 + 2, none⟩) hgw] at d2
              rw [← hbV.cell (p := ⟨g, o + k * 4, none⟩) hgw] at m0
              rw [← hbV.cell (p := ⟨g, o + k * 4 + 2, none⟩) hgw] at m2
              have hgv : g < V0.heap.size := Nat.lt_of_lt_of_le hgw hbV.size
              have HBV : Hid (Below wr.heap.size wr V0) := hbV
              clear hV0 hbV m1 m3 d1 d3 hq
              go_wp2_with (fail)
              (refine wp_region_und (by kernel_rfl) (by kernel_rfl) (fun hund => ?_); (repeat (go_big_quiet_step (first | (go_at_call 59; with_reducible refine und_call_same (k1.out _)) | (go_at_call 58; with_reducible refine und_call_same (k2.out _)) | (go_at_call 58; with_reducible refine und_call_same (k3.out _))))); with_reducible refine wpQuiet_nil ?_; clear hund; intro W2 hb2; obtain ⟨hc2, hf2⟩ := bcell hb2)
              have HR4 := HR3.out W2 (HBV.out.trans (hb2.mono HBV.out.size))
              have HR5 : Hid (y - 2 * r = sumB perB (s.take k) + perB b - 2 * (pairs (s.take k) + sumB (fun a => fB a b) (s.take (j + 1))) ∧ Below _ _ W2) := HR4
              clear HR4 HR3 hb2 hc2 hf2 k1 k2 k3
              go_wp2
              go_roundw
              case rel => exact ⟨j + 1, _, by omega, by go_num, rfl, HR5.out⟩
              case measure => simp [intOf]; omega
          · have hjk' : j = k := by omega
            have HO : Hid (y = sumB perB (s.take (k + 1)) - 2 * pairs (s.take (k + 1)) ∧ Below w1.heap.size w1 wr) := by
              refine ⟨?_, HX.out.2.trans (hR2.out.2.mono HX.out.2.size)⟩
              rw [HST.out.1, HST.out.2, hR2.out.1, hjk']
            have hyb : -2000000000 ≤ y ∧ y ≤ 2000000000 := by
              have h1 := hbds.out
              have h2 := h1.2.2.2.2 j
              have h3 : perB b = 2 * (b.x1 - b.x0) + 2 * (b.y1 - b.y0) := rfl
              have h4 := hR2.out.1
              omega
            have e2 : ¬ (j : Int) < (k : Int) := by omega
            clear hjk' hR2 HX HST hbds
            go_wp2
            go_roundw
            case rel => exact ⟨k + 1, y, by omega, by go_num, rfl, hyb.1, hyb.2, HO.out⟩
            case measure => simp [intOf]; omega
      · have e : Hid (x = rimS s) := by unfold Hid; rw [hR.out.1, List.take_of_length_le (by rw [← HN.out]; omega)]; rfl
        have hk2 := res_next HK1.out.1 hR.out.2
        have HB2 : Hid (Below w.heap.size w wr) := HK1.out.2.trans (hR.out.2.mono HK1.out.2.size)
        obtain ⟨r0, r1, f0, f1, hlt2⟩ := two_cells hk2
        clear hR hk2
        go_wp2
        refine bodyPost_ret (by simp [results, Try.results29, go_sem, r0, r1, hlt2]; rfl) rfl ⟨?_, ?_⟩
        · rw [HE.out, ← e.out]
        · have hb := HB2.out
          (repeat' (first | (with_reducible exact Below.refl _ _) | (with_reducible assumption) | (with_reducible refine Below.setCell ?_ ?_ _) | (with_reducible refine Below.alloc ?_ ?_ _) | (with_reducible refine below_drewN ?_ _) | (with_reducible refine Below.drew ?_) | (with_reducible exact Nat.le_refl _) | omega | (simp; done) | (simp; omega)))
  · have HE : Hid (rimV s = 0) := by unfold Hid rimV; rw [if_neg (by rw [← HZ.out]; exact hz0)]
    go_enter Try.func29, Try.ntmps29
    go_wp2_with (fail)
    refine (spec_shape (H.out.below ((Below.refl _ _).alloc (Nat.le_refl _) _))).mono ?_
    rintro e w1 ⟨rfl, hb1⟩
    rw [← HZ.out]
    obtain ⟨hk1, hlt1, hB1⟩ := res_kept hb1
    have HB1 : Hid (Below w.heap.size w w1) := hB1
    obtain ⟨r0, r1, f0, f1, hlt2⟩ := two_cells hk1
    clear hb1 hk1 hB1
    go_wp2
    refine bodyPost_ret (by simp [results, Try.results29, go_sem, r0, r1, hlt2]; rfl) rfl ⟨?_, ?_⟩
    · rw [HE.out]
    · have hb := HB1.out
      (repeat' (first | (with_reducible exact Below.refl _ _) | (with_reducible assumption) | (with_reducible refine Below.setCell ?_ ?_ _) | (with_reducible refine Below.alloc ?_ ?_ _) | (with_reducible refine below_drewN ?_ _) | (with_reducible refine Below.drew ?_) | (with_reducible exact Nat.le_refl _) | omega | (simp; done) | (simp; omega)))

theorem fB_if {b t : Bx} (hq : t.y0 = b.y1) : fB b t = if (if b.x0 < t.x0 then t.x0 else b.x0) < (if t.x1 < b.x1 then t.x1 else b.x1) then (if t.x1 < b.x1 then t.x1 else b.x1) - (if b.x0 < t.x0 then t.x0 else b.x0) else 0 := by
  unfold fB ovB maxI minI
  rw [if_pos hq.symm]
  repeat' split
  all_goals omega

set_option maxHeartbeats 1600000 in
theorem impl_sides (b t : Bx) (w : World) (hb : -10000 ≤ b.x0 ∧ b.x0 ≤ 10000 ∧ -10000 ≤ b.x1 ∧ b.x1 ≤ 10000) (ht : -10000 ≤ t.x0 ∧ t.x0 ≤ 10000 ∧ -10000 ≤ t.x1 ∧ t.x1 ≤ 10000) :
    Calls Try.prog 81 #[.agg #[.int .i64 b.x0, .int .i64 b.y0, .int .i64 b.x1, .int .i64 b.y1], .agg #[.int .i64 t.x0, .int .i64 t.y0, .int .i64 t.x1, .int .i64 t.y1]] w fun e w' => e = .returned (.int .i64 (fB b t)) ∧ Below w.heap.size w w' := by
  by_cases hq : t.y0 = b.y1
  · have HF : Hid (fB b t = if (if b.x0 < t.x0 then t.x0 else b.x0) < (if t.x1 < b.x1 then t.x1 else b.x1) then (if t.x1 < b.x1 then t.x1 else b.x1) - (if b.x0 < t.x0 then t.x0 else b.x0) else 0) := fB_if hq
    go_enter Try.func81, Try.ntmps81
    go_wp2
    all_goals
      go_returns
      refine ⟨congrArg (fun z => Ending.returned (Value.int IntKind.i64 z)) ?_, by (repeat' (first | (with_reducible exact Below.refl _ _) | (with_reducible assumption) | (with_reducible refine Below.setCell ?_ ?_ _) | (with_reducible refine Below.alloc ?_ ?_ _) | (with_reducible refine below_drewN ?_ _) | (with_reducible refine Below.drew ?_) | (with_reducible exact Nat.le_refl _) | omega | (simp; done) | (simp; omega)))⟩
      rw [HF.out]
      (repeat' split) <;> omega
  · have HF : Hid (fB b t = 0) := by unfold Hid fB; rw [if_neg (fun e => hq e.symm)]
    go_enter Try.func81, Try.ntmps81
    go_wp2
    go_returns
    exact ⟨by rw [HF.out]; rfl, by (repeat' (first | (with_reducible exact Below.refl _ _) | (with_reducible assumption) | (with_reducible refine Below.setCell ?_ ?_ _) | (with_reducible refine Below.alloc ?_ ?_ _) | (with_reducible refine below_drewN ?_ _) | (with_reducible refine Below.drew ?_) | (with_reducible exact Nat.le_refl _) | omega | (simp; done) | (simp; omega)))⟩

set_option maxHeartbeats 800000 in
theorem impl_shared_zero (b : Bx) (a : Option Addr) (c : Nat) (w : World) :
    Calls Try.prog 57 #[.agg #[.int .i64 b.x0, .int .i64 b.y0, .int .i64 b.x1, .int .i64 b.y1], .slice a 0 c] w fun e w' => e = .returned (.int .i64 0) ∧ Below w.heap.size w w' := by
  go_enter Try.func57, Try.ntmps57
  go_wp2
  refine wp_loop_rounds 1 ?_
  rw [rounds_succ]
  go_wp2
  go_returns
  exact ⟨rfl, by (repeat' (first | (with_reducible exact Below.refl _ _) | (with_reducible assumption) | (with_reducible refine Below.setCell ?_ ?_ _) | (with_reducible refine Below.alloc ?_ ?_ _) | (with_reducible refine below_drewN ?_ _) | (with_reducible refine Below.drew ?_) | (with_reducible exact Nat.le_refl _) | omega | (simp; done) | (simp; omega)))⟩

set_option maxRecDepth 10000 in
set_option maxHeartbeats 3200000 in
theorem impl_shared_pos (b : Bx) (g o c n : Nat) (s : List Bx) (w : World) (hl : Hid (s.length = n)) (hn : n ≤ 150) (hgd : Hid (Good s)) (hb0 : -10000 ≤ b.x0 ∧ b.x0 ≤ 10000 ∧ -10000 ≤ b.x1 ∧ b.x1 ≤ 10000) (hg : g < w.heap.size) (h : ∀ j, j < n → BAt w g (o + j * 4) (bat s j)) :
    Calls Try.prog 57 #[.agg #[.int .i64 b.x0, .int .i64 b.y0, .int .i64 b.x1, .int .i64 b.y1], .slice (some ⟨g, o, none⟩) n c] w fun e w' => e = .returned (.int .i64 (sumB (fB b) s)) ∧ Below w.heap.size w w' := by
  have H : Hid (∀ j, j < n → BAt w g (o + j * 4) (bat s j)) := h
  clear h
  have HB0 : Hid (-10000 ≤ b.x0 ∧ b.x0 ≤ 10000 ∧ -10000 ≤ b.x1 ∧ b.x1 ≤ 10000) := hb0
  clear hb0
  go_enter Try.func57, Try.ntmps57
  go_wp2
  go_loopw [5, 10] (fun q i wr => ∃ (k : Nat) (z : Int), k ≤ n ∧ i = .int .i64 k ∧ q = .int .i64 z ∧ Hid (z = sumB (fB b) (s.take k) ∧ Below (w.heap.size + 1) (w.alloc (.cells #[.int .i64 b.x0, .int .i64 b.y0, .int .i64 b.x1, .int .i64 b.y1] 49)) wr)) (fun _ i _ => n - (intOf i).toNat)
  case atStart => exact ⟨0, 0, Nat.zero_le _, rfl, rfl, rfl, Below.refl _ _⟩
  case round =>
    obtain ⟨k, z, hk, rfl, rfl, hR⟩ := hrel
    have HBW : Hid (Below w.heap.size w wr) := ((Below.refl _ _).alloc (Nat.le_refl _) _).trans (hR.out.2.mono (by omega))
    by_cases hlt : k < n
    · have hkl : k < s.length := by rw [hl.out]; exact hlt
      obtain ⟨c0, c1, c2, c3⟩ := (H.out k hlt).below hg HBW.out
      obtain ⟨t, ht⟩ : ∃ t, t = bat s k := ⟨_, rfl⟩
      rw [← ht] at c0 c1 c2 c3
      have hgt := hgd.out.at hkl ht
      have v0 : wr.cell? ⟨w.heap.size, 0, none⟩ = some (.int .i64 b.x0) := by rw [hR.out.2.cell (p := ⟨w.heap.size, 0, none⟩) (by simp)]; simp
      have v1 : wr.cell? ⟨w.heap.size, 1, none⟩ = some (.int .i64 b.y0) := by rw [hR.out.2.cell (p := ⟨w.heap.size, 1, none⟩) (by simp)]; simp
      have v2 : wr.cell? ⟨w.heap.size, 2, none⟩ = some (.int .i64 b.x1) := by rw [hR.out.2.cell (p := ⟨w.heap.size, 2, none⟩) (by simp)]; simp
      have v3 : wr.cell? ⟨w.heap.size, 3, none⟩ = some (.int .i64 b.y1) := by rw [hR.out.2.cell (p := ⟨w.heap.size, 3, none⟩) (by simp)]; simp
      have hsz : w.heap.size < wr.heap.size := by have := hR.out.2.size; simp at this; omega
      have HBL : Hid (Below (w.heap.size + 1) (w.alloc (.cells #[.int .i64 b.x0, .int .i64 b.y0, .int .i64 b.x1, .int .i64 b.y1] 49)) wr) := hR.out.2
      obtain ⟨f, hf⟩ : ∃ f, f = fB b t := ⟨_, rfl⟩
      have HS : Hid (sumB (fB b) (s.take (k + 1)) = z + f) := by unfold Hid; rw [take_bat hkl, sumB_append, ← ht, hR.out.1, hf]; simp [sumB]
      have hzb : 0 ≤ z ∧ z ≤ 3000000 := by
        rw [hR.out.1]
        have := sumB_bd (m := 20000) (g := fB b) (s := s.take k) fun a ha => by
          unfold fB
          split
          · exact ovB_bd ⟨HB0.out.1, HB0.out.2.2.2⟩
          · omega
        have hl3 : (s.take k).length ≤ 150 := by rw [List.length_take]; omega
        omega
      have hfb : 0 ≤ f ∧ f ≤ 20000 := by
        rw [hf]; unfold fB
        split
        · exact ovB_bd ⟨HB0.out.1, HB0.out.2.2.2⟩
        · omega
      have HC : Hid (∀ W, Calls Try.prog 81 #[.agg #[.int .i64 b.x0, .int .i64 b.y0, .int .i64 b.x1, .int .i64 b.y1], .agg #[.int .i64 t.x0, .int .i64 t.y0, .int .i64 t.x1, .int .i64 t.y1]] W fun e w' => e = .returned (.int .i64 f) ∧ Below W.heap.size W w') := fun W => by rw [hf]; exact impl_sides b t W HB0.out ⟨by omega, by omega, by omega, by omega⟩
      have hw : IntKind.i64.wrap (z + f) = z + f := by rw [IntKind.wrap_i64]; omega
      clear ht hR hf hgt
      have b0 : (0 : Int) ≤ (k : Int) := by omega
      have b1 : (k : Int) < (n : Int) := by omega
      go_wp2_with (fail)
      refine (HC.out _).mono ?_
      rintro e w4 ⟨rfl, hb4⟩
      have hb4' : Below wr.heap.size wr w4 := Below.trans (by (repeat' (first | (with_reducible exact Below.refl _ _) | (with_reducible assumption) | (with_reducible refine Below.setCell ?_ ?_ _) | (with_reducible refine Below.alloc ?_ ?_ _) | (with_reducible refine below_drewN ?_ _) | (with_reducible refine Below.drew ?_) | (with_reducible exact Nat.le_refl _) | omega | (simp; done) | (simp; omega)))) (hb4.mono (by simp))
      have HB4 : Hid (Below (w.heap.size + 1) (w.alloc (.cells #[.int .i64 b.x0, .int .i64 b.y0, .int .i64 b.x1, .int .i64 b.y1] 49)) w4) := HBL.out.trans (hb4'.mono (by omega))
      clear hb4 hb4' c0 c1 c2 c3 v0 v1 v2 v3 HBL
      go_wp2
      go_roundw
      case rel => exact ⟨k + 1, _, by omega, by go_num, rfl, by rw [HS.out], HB4.out⟩
      case measure => simp [intOf]; omega
    · have e : Hid (z = sumB (fB b) s) := by unfold Hid; rw [hR.out.1, List.take_of_length_le (by rw [hl.out]; omega)]
      go_wp2
      go_returns
      exact ⟨by rw [← e.out]; rfl, HBW.out⟩

theorem impl_shared {w : World} {v : Value} {s : List Bx} (b : Bx) (hl : s.length ≤ 150) (hg : Good s) (hb0 : -10000 ≤ b.x0 ∧ b.x0 ≤ 10000 ∧ -10000 ≤ b.x1 ∧ b.x1 ≤ 10000) (h : RB w v s) :
    Calls Try.prog 57 #[.agg #[.int .i64 b.x0, .int .i64 b.y0, .int .i64 b.x1, .int .i64 b.y1], v] w fun e w' => e = .returned (.int .i64 (sumB (fB b) s)) ∧ Below w.heap.size w w' := by
  rcases Nat.eq_zero_or_pos s.length with h0 | hp
  · obtain rfl : s = [] := List.length_eq_zero_iff.1 h0
    obtain ⟨a, c, rfl⟩ := h.form
    exact impl_shared_zero b a c w
  · obtain ⟨g, o, c, rfl, hg', hj⟩ := h.pos hp
    exact impl_shared_pos b g o c _ s w rfl hl hg hb0 hg' hj

theorem sumG_bd {l s : List Bx} (h : Good s) (hs : ∀ b ∈ l, b ∈ s) (hs2 : s.length ≤ 150) (hl : l.length ≤ 150) : 0 ≤ sumB (fun b => sumB (fB b) s) l ∧ sumB (fun b => sumB (fB b) s) l ≤ 450000000 := by
  have := sumB_bd (m := 3000000) (g := fun b => sumB (fB b) s) (s := l) fun b hb => subG_bd h (hs b hb) hs2
  omega
theorem rimT_bd {l s : List Bx} (h : Good s) (hs : ∀ b ∈ l, b ∈ s) (hs2 : s.length ≤ 150) (hl : l.length ≤ 150) : -1000000000 ≤ rimT s l ∧ rimT s l ≤ 1000000000 := by
  unfold rimT
  rw [sumB_lin]
  have h1 := sub_bd h hs hl
  have h2 := sumG_bd h hs hs2 hl
  omega

set_option maxRecDepth 10000 in
set_option maxHeartbeats 3200000 in
theorem impl_rimOf {w : World} {a : Option Addr} {n c : Nat} {s : List Bx} (hn : s.length ≤ 1099511627776) (hc : n ≤ c) (h : RB w (.slice a n c) s) :
    Calls Try.prog 28 #[.slice a n c] w fun e w' => e = .returned (.agg #[.int .i64 (shapeK s), .int .i64 (rimV s)]) ∧ Below w.heap.size w w' := by
  have hlen : s.length = n := by obtain ⟨_, _, e⟩ := h.form; injection e with _ e2 _; exact e2.symm
  have H : Hid (RB w (.slice a n c) s ∧ s.length ≤ 1099511627776) := ⟨h, hn⟩
  have HN : Hid (n = s.length) := hlen.symm
  clear h hn hlen
  obtain ⟨z, hz⟩ : ∃ z, z = shapeK s := ⟨_, rfl⟩
  have HZ : Hid (z = shapeK s) := hz
  rw [← hz]
  clear hz
  by_cases hz0 : z = 0
  · have hsz := shapeK_zero (show shapeK s = 0 by rw [← HZ.out]; exact hz0)
    have hbz := boxesK_zero hsz.1
    have HL : Hid (s.length ≤ 150 ∧ Good s) := ⟨hbz.1, hbz.2⟩
    have HE : Hid (rimV s = rimT s s) := by
      unfold Hid rimV; rw [if_pos (by rw [← HZ.out]; exact hz0)]
      exact (rim_same (fun b hb => ⟨(hbz.2 b hb).1, (hbz.2 b hb).2.1⟩) hsz.2).symm
    have hn150 : n ≤ 150 := by rw [HN.out]; exact HL.out.1
    clear hbz hsz
    subst hz0
    go_enter Try.func28, Try.ntmps28
    go_wp2_with (fail)
    refine (impl_shape H.out.2 hc (H.out.1.below ((Below.refl _ _).alloc (Nat.le_refl _) _))).mono ?_
    rintro e w1 ⟨rfl, hb1⟩
    rw [← HZ.out]
    obtain ⟨hk1, hlt1, hB1⟩ := res_kept hb1
    have HK1 : Hid (w1.heap[w.heap.size]? = some (.cells #[.int .i64 0, .int .i64 0] 45) ∧ Below w.heap.size w w1) := ⟨hk1, hB1⟩
    clear hb1 hk1 hB1
    go_wp2_with (fail)
    go_loopw [4, 15] (fun q i wr => ∃ (k : Nat) (x : Int), k ≤ n ∧ i = .int .i64 k ∧ q = .int .i64 x ∧ Hid (x = rimT s (s.take k) ∧ Below w1.heap.size w1 wr)) (fun _ i _ => n - (intOf i).toNat)
    case atStart => exact ⟨0, 0, Nat.zero_le _, rfl, rfl, rfl, Below.refl _ _⟩
    case round =>
      obtain ⟨k, x, hk, rfl, rfl, hR⟩ := hrel
      by_cases hlt : k < n
      · have HRB : Hid (RB wr (.slice a n c) s) := (H.out.1.below HK1.out.2).below hR.out.2
        obtain ⟨g, o, c2, he, hg, hj⟩ := HRB.out.pos (by rw [← HN.out]; omega)
        injection he with e1 e2 e3
        clear e2
        subst e1 e3
        have hkl : k < s.length := by rw [← HN.out]; exact hlt
        obtain ⟨c0, c1, c2, c3⟩ := hj k hkl
        obtain ⟨b, hb⟩ : ∃ b, b = bat s k := ⟨_, rfl⟩
        rw [← hb] at c0 c1 c2 c3
        have hgb := HL.out.2.at hkl hb
        obtain ⟨G, hG⟩ : ∃ G, G = sumB (fB b) s := ⟨_, rfl⟩
        have hbs : b ∈ s := by rw [hb, bat_get hkl]; exact List.getElem_mem _
        have hGb : 0 ≤ G ∧ G ≤ 3000000 := by rw [hG]; exact subG_bd HL.out.2 hbs HL.out.1
        have hxb : -1000000000 ≤ x ∧ x ≤ 1000000000 := by
          rw [hR.out.1]; exact rimT_bd HL.out.2 (fun q hq => List.mem_of_mem_take hq) HL.out.1 (by rw [List.length_take]; omega)
        have HST : Hid (rimT s (s.take (k + 1)) = x + (2 * (b.x1 - b.x0) + 2 * (b.y1 - b.y0)) - 2 * G) := by
          unfold Hid rimT; rw [take_bat hkl, sumB_append, ← hb, hR.out.1, hG]; simp [sumB, rimT, perB]; omega
        have hcall : Hid (∀ W, Below wr.heap.size wr W → Calls Try.prog 57 #[.agg #[.int .i64 b.x0, .int .i64 b.y0, .int .i64 b.x1, .int .i64 b.y1], .slice (some ⟨g, o, none⟩) n c] W fun e w' => e = .returned (.int .i64 G) ∧ Below W.heap.size W w') := fun W hW => by
          rw [hG]; exact impl_shared b HL.out.1 HL.out.2 ⟨by omega, by omega, by omega, by omega⟩ (HRB.out.below hW)
        have HBL : Hid (Below w1.heap.size w1 wr) := hR.out.2
        have hsz := hR.out.2.size
        clear hb hG hbs hj hR
        have b0 : (0 : Int) ≤ (k : Int) := by omega
        have b1 : (k : Int) < (n : Int) := by omega
        go_wp2_with (fail)
        refine (hcall.out _ (by (repeat' (first | (with_reducible exact Below.refl _ _) | (with_reducible assumption) | (with_reducible refine Below.setCell ?_ ?_ _) | (with_reducible refine Below.alloc ?_ ?_ _) | (with_reducible refine below_drewN ?_ _) | (with_reducible refine Below.drew ?_) | (with_reducible exact Nat.le_refl _) | omega | (simp; done) | (simp; omega))))).mono ?_
        rintro e w2 ⟨rfl, hb2⟩
        have HB2 : Hid (Below w1.heap.size w1 w2) := by
          have hbl := HBL.out
          exact Below.trans (by (repeat' (first | (with_reducible exact Below.refl _ _) | (with_reducible assumption) | (with_reducible refine Below.setCell ?_ ?_ _) | (with_reducible refine Below.alloc ?_ ?_ _) | (with_reducible refine below_drewN ?_ _) | (with_reducible refine Below.drew ?_) | (with_reducible exact Nat.le_refl _) | omega | (simp; done) | (simp; omega)))) (hb2.mono (by simp; omega))
        clear hb2 c0 c1 c2 c3
        go_wp2
        go_roundw
        case rel => exact ⟨k + 1, _, by omega, by go_num, rfl, by rw [HST.out]; omega, HB2.out⟩
        case measure => simp [intOf]; omega
      · have e : Hid (x = rimT s s) := by unfold Hid; rw [hR.out.1, List.take_of_length_le (by rw [← HN.out]; omega)]
        have hk2 := res_next HK1.out.1 hR.out.2
        have HB2 : Hid (Below w.heap.size w wr) := HK1.out.2.trans (hR.out.2.mono HK1.out.2.size)
        obtain ⟨r0, r1, f0, f1, hlt2⟩ := two_cells hk2
        clear hR hk2
        go_wp2
        refine bodyPost_ret (by simp [results, Try.results28, go_sem, r0, r1, hlt2]; rfl) rfl ⟨?_, ?_⟩
        · rw [HE.out, ← e.out]
        · have hb := HB2.out
          (repeat' (first | (with_reducible exact Below.refl _ _) | (with_reducible assumption) | (with_reducible refine Below.setCell ?_ ?_ _) | (with_reducible refine Below.alloc ?_ ?_ _) | (with_reducible refine below_drewN ?_ _) | (with_reducible refine Below.drew ?_) | (with_reducible exact Nat.le_refl _) | omega | (simp; done) | (simp; omega)))
  · have HE : Hid (rimV s = 0) := by unfold Hid rimV; rw [if_neg (by rw [← HZ.out]; exact hz0)]
    go_enter Try.func28, Try.ntmps28
    go_wp2_with (fail)
    refine (impl_shape H.out.2 hc (H.out.1.below ((Below.refl _ _).alloc (Nat.le_refl _) _))).mono ?_
    rintro e w1 ⟨rfl, hb1⟩
    rw [← HZ.out]
    obtain ⟨hk1, hlt1, hB1⟩ := res_kept hb1
    have HB1 : Hid (Below w.heap.size w w1) := hB1
    obtain ⟨r0, r1, f0, f1, hlt2⟩ := two_cells hk1
    clear hb1 hk1 hB1
    go_wp2
    refine bodyPost_ret (by simp [results, Try.results28, go_sem, r0, r1, hlt2]; rfl) rfl ⟨?_, ?_⟩
    · rw [HE.out]
    · have hb := HB1.out
      (repeat' (first | (with_reducible exact Below.refl _ _) | (with_reducible assumption) | (with_reducible refine Below.setCell ?_ ?_ _) | (with_reducible refine Below.alloc ?_ ?_ _) | (with_reducible refine below_drewN ?_ _) | (with_reducible refine Below.drew ?_) | (with_reducible exact Nat.le_refl _) | omega | (simp; done) | (simp; omega)))

end Go.Proofs.Ytokdpgabmifdjab
