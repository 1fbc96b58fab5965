/- Proved here: the fault of marks, of the model: msF. -/
import Derived.Test.YtdidmjgilnhncaaMaM
import Derived.Test.YtdidmjgilnhncaaInS
import Derived.Deep.DeepCutAuto
namespace Go.Proofs.Ytdidmjgilnhncaa
open Go.RowKit
set_option linter.unusedVariables false
set_option linter.unusedSimpArgs false

theorem four_c {w : World} {k : Nat} {a b c d : Value} {T : TypeId} (h : w.heap[k]? = some (.cells #[a, b, c, d] T)) :
    w.cell? ⟨k, 0, none⟩ = some a ∧ w.cell? ⟨k, 1, none⟩ = some b ∧ w.cell? ⟨k, 2, none⟩ = some c ∧ w.cell? ⟨k, 3, none⟩ = some d ∧ k < w.heap.size := by
  refine ⟨by simp [World.cell?, h], by simp [World.cell?, h], by simp [World.cell?, h], by simp [World.cell?, h], ?_⟩
  rcases Nat.lt_or_ge k w.heap.size with h' | h'
  · exact h'
  · rw [Array.getElem?_eq_none h'] at h; cases h

set_option maxRecDepth 10000 in
set_option maxHeartbeats 12800000 in
theorem spec_msF {w : World} {v : Value} {s : List Mrk} (hn : s.length ≤ 1048576) (h : RG 4 maC w v s) :
    Calls Try.prog 16 #[v] w fun e w' => e = .returned (.int .i64 (msF s)) ∧ Below w.heap.size w w' := by
  obtain ⟨a, c, rfl⟩ := h.form
  obtain ⟨n, hnn⟩ : ∃ n, n = s.length := ⟨_, rfl⟩
  obtain ⟨C, hC⟩ : ∃ C, C = msF s := ⟨_, rfl⟩
  rw [← hnn] at h hn ⊢
  rw [← hC]
  have H : Hid (RG 4 maC w (.slice a n c) s ∧ n = s.length ∧ C = msF s) := ⟨h, hnn, hC⟩
  clear h hnn hC
  by_cases h1 : (n : Int) < 2
  · have HC : Hid (C = 1) := by unfold Hid; rw [H.out.2.2, msF_few (by rw [← H.out.2.1]; omega)]
    clear H
    go_enter Try.func16, Try.ntmps16
    go_wp2
    go_returns
    exact ⟨by rw [HC.out]; rfl, Below.refl _ _⟩
  by_cases h2 : (20 : Int) < (n : Int)
  · have HC : Hid (C = 2) := by unfold Hid; rw [H.out.2.2, msF_many (by rw [← H.out.2.1]; omega)]
    clear H
    go_enter Try.func16, Try.ntmps16
    go_wp2
    go_returns
    exact ⟨by rw [HC.out]; rfl, Below.refl _ _⟩
  obtain ⟨m0, hm0⟩ : ∃ m t, s = m :: t := by
    have := H.out.2.1
    cases s with
    | nil => simp at this; omega
    | cons m t => exact ⟨m, t, rfl⟩
  have HC : Hid (C = msG m0 true s ∧ ∀ h : 0 < s.length, s[0] = m0) := by
    obtain ⟨t, rfl⟩ := hm0
    have e := H.out.2.1
    exact ⟨by rw [H.out.2.2, msF_is (by rw [← e]; omega) (by rw [← e]; omega)], fun _ => rfl⟩
  clear hm0
  go_enter Try.func16, Try.ntmps16
  go_wp2
  go_loopw [3, 4] (fun q i wr => ∃ (k : Nat) (one : Bool), k ≤ n ∧ i = .int .i64 k ∧ q = .bool one ∧ Hid (C = msG m0 one (s.drop k) ∧ Below w.heap.size w wr)) (fun _ i _ => n - (intOf i).toNat)
  case atStart => exact ⟨0, true, Nat.zero_le _, rfl, rfl, HC.out.1, Below.refl _ _⟩
  case round =>
    obtain ⟨k, one, hk, rfl, rfl, hR⟩ := hrel
    by_cases hlt : k < n
    · have hjl : k < s.length := by rw [← H.out.2.1]; exact hlt
      obtain ⟨g, o, c2, he, hg, hj⟩ := (H.out.1.below hR.out.2).pos (by omega)
      simp only [Value.slice.injEq] at he
      obtain ⟨rfl, hx1, hx2⟩ := he
      clear hx1 hx2
      obtain ⟨c0, c1, c2', c3⟩ := maC_at (hj k hjl)
      have hj0 := hj 0 (by omega)
      simp only [Nat.zero_mul, Nat.add_zero] at hj0
      rw [HC.out.2 (by omega)] at hj0
      obtain ⟨d0, d1, d2, d3⟩ := maC_at hj0
      obtain ⟨m, hm⟩ : ∃ m, m = s[k] := ⟨_, rfl⟩
      rw [← hm] at c0 c1 c2' c3
      have HN : Hid (C = if beyM m then 3 else msG m0 (one && !aptM m0 m) (s.drop (k + 1))) := by
        unfold Hid; rw [hR.out.1, List.drop_eq_getElem_cons hjl, msG, ← hm]
      have HB : Hid (Below w.heap.size w wr) := hR.out.2
      clear hR hj hj0 hm
      obtain ⟨r1, h1'⟩ : ∃ r, r = decide (-50 ≤ m.x ∧ m.x ≤ 50) := ⟨_, rfl⟩
      obtain ⟨r2, h2'⟩ : ∃ r, r = decide (-50 ≤ m.y ∧ m.y ≤ 50) := ⟨_, rfl⟩
      obtain ⟨r3, h3'⟩ : ∃ r, r = decide (-1000 ≤ m.dx ∧ m.dx ≤ 1000) := ⟨_, rfl⟩
      obtain ⟨r4, h4'⟩ : ∃ r, r = decide (-1000 ≤ m.dy ∧ m.dy ≤ 1000) := ⟨_, rfl⟩
      have HE : Hid (beyM m = (!r1 || !r2 || !r3 || !r4)) := by unfold Hid beyM; rw [h1', h2', h3', h4']
      have H1 : Hid (∀ W, Calls Try.prog 43 #[.int .i64 m.x, .int .i64 (-50), .int .i64 50] W fun e w' => e = .returned (.bool r1) ∧ w' = W) := fun W => by rw [h1']; exact spec_in10 _ _ _ W
      have H2 : Hid (∀ W, Calls Try.prog 43 #[.int .i64 m.y, .int .i64 (-50), .int .i64 50] W fun e w' => e = .returned (.bool r2) ∧ w' = W) := fun W => by rw [h2']; exact spec_in10 _ _ _ W
      have H3 : Hid (∀ W, Calls Try.prog 43 #[.int .i64 m.dx, .int .i64 (-1000), .int .i64 1000] W fun e w' => e = .returned (.bool r3) ∧ w' = W) := fun W => by rw [h3']; exact spec_in10 _ _ _ W
      have H4 : Hid (∀ W, Calls Try.prog 43 #[.int .i64 m.dy, .int .i64 (-1000), .int .i64 1000] W fun e w' => e = .returned (.bool r4) ∧ w' = W) := fun W => by rw [h4']; exact spec_in10 _ _ _ W
      clear h1' h2' h3' h4'
      have b0 : (0 : Int) ≤ (k : Int) := by omega
      have b1 : (k : Int) < (n : Int) := by omega
      have b2 : (0 : Int) < (n : Int) := by omega
      go_wp2_with (fail)
      obtain ⟨V, hV⟩ : ∃ V, V = wr.alloc (.cells #[.int .i64 m.x, .int .i64 m.y, .int .i64 m.dx, .int .i64 m.dy] 76) := ⟨_, rfl⟩
      rw [← hV]
      have kV : V.heap[wr.heap.size]? = some (.cells #[.int .i64 m.x, .int .i64 m.y, .int .i64 m.dx, .int .i64 m.dy] 76) := by rw [hV]; exact heap_alloc_new wr _
      have bV : Below wr.heap.size wr V := by rw [hV]; (repeat' (first | (with_reducible exact Below.refl _ _) | (with_reducible assumption) | (with_reducible refine Below.setCell ?_ ?_ _) | (with_reducible refine Below.alloc ?_ ?_ _) | (with_reducible refine below_drewN ?_ _) | (with_reducible refine Below.drew ?_) | (with_reducible exact Nat.le_refl _) | omega | (simp; done) | (simp; omega)))
      have HBV : Hid (Below w.heap.size w V) := HB.out.trans (bV.mono HB.out.size)
      obtain ⟨p0, p1, p2, p3, pl⟩ := four_c kV
      have e0 := (bV.cell (p := ⟨g, o, none⟩) hg).trans d0
      have e1 := (bV.cell (p := ⟨g, o + 1, none⟩) hg).trans d1
      have hgV : g < V.heap.size := Nat.lt_of_lt_of_le hg bV.size
      clear hV kV bV c0 c1 c2' c3 d0 d1 d2 d3 hg HB
      refine (H1.out _).mono ?_
      rintro e w1 ⟨rfl, rfl⟩
      cases r1 with
      | false =>
        have HZ : Hid (C = 3) := by unfold Hid; rw [HN.out, HE.out]; rfl
        go_wp2
        go_returns
        exact ⟨by rw [HZ.out]; rfl, HBV.out⟩
      | true =>
      go_wp2_with (fail)
      refine (H2.out _).mono ?_
      rintro e w2 ⟨rfl, rfl⟩
      cases r2 with
      | false =>
        have HZ : Hid (C = 3) := by unfold Hid; rw [HN.out, HE.out]; rfl
        go_wp2
        go_returns
        exact ⟨by rw [HZ.out]; rfl, HBV.out⟩
      | true =>
      go_wp2_with (fail)
      refine (H3.out _).mono ?_
      rintro e w3 ⟨rfl, rfl⟩
      cases r3 with
      | false =>
        have HZ : Hid (C = 3) := by unfold Hid; rw [HN.out, HE.out]; rfl
        go_wp2
        go_returns
        exact ⟨by rw [HZ.out]; rfl, HBV.out⟩
      | true =>
      go_wp2_with (fail)
      refine (H4.out _).mono ?_
      rintro e w4 ⟨rfl, rfl⟩
      cases r4 with
      | false =>
        have HZ : Hid (C = 3) := by unfold Hid; rw [HN.out, HE.out]; rfl
        go_wp2
        go_returns
        exact ⟨by rw [HZ.out]; rfl, HBV.out⟩
      | true =>
      have HN2 : Hid (C = msG m0 (one && !aptM m0 m) (s.drop (k + 1))) := by have e := HN.out; rw [HE.out] at e; exact e
      clear HN HE H1 H2 H3 H4
      go_wp2_with (fail)
      cases one with
      | false =>
        have HZ : Hid (C = msG m0 false (s.drop (k + 1))) := by unfold Hid; have e := HN2.out; simpa using e
        (refine wp_region_und (by kernel_rfl) (by kernel_rfl) (fun hund => ?_); (repeat (go_big_quiet_step (fail))); with_reducible refine wpQuiet_nil ?_; clear hund; intro W1 hb1; obtain ⟨hc1, hf1⟩ := undcell hb1)
        have HB1 : Hid (Below w.heap.size w W1) := HBV.out.trans (hb1.mono HBV.out.size)
        clear hb1 hc1 hf1
        go_wp2
        go_roundw
        case rel => exact ⟨k + 1, false, by omega, by go_num, by first | rfl | trivial, HZ.out, HB1.out⟩
        case measure => simp [intOf]; omega
      | true =>
      by_cases hx : m.x = m0.x
      · by_cases hy : m.y = m0.y
        · have HZ : Hid (C = msG m0 true (s.drop (k + 1))) := by
            have e := HN2.out
            rw [show aptM m0 m = false by unfold aptM; rw [hx, hy]; simp] at e; exact e
          have hx' : (m.x == m0.x) = true := by simpa using hx
          have hy' : (m.y == m0.y) = true := by simpa using hy
          clear hx hy HN2
          (refine wp_region_und (by kernel_rfl) (by kernel_rfl) (fun hund => ?_); (repeat (go_big_quiet_step (fail))); with_reducible refine wpQuiet_nil ?_; clear hund; intro W1 hb1; obtain ⟨hc1, hf1⟩ := undcell hb1)
          have HB1 : Hid (Below w.heap.size w W1) := HBV.out.trans (hb1.mono HBV.out.size)
          clear hb1 hc1 hf1
          go_wp2
          go_roundw
          case rel => exact ⟨k + 1, true, by omega, by go_num, by first | rfl | trivial, HZ.out, HB1.out⟩
          case measure => simp [intOf]; omega
        · have HZ : Hid (C = msG m0 false (s.drop (k + 1))) := by
            have e := HN2.out
            rw [show aptM m0 m = true by unfold aptM; simp [Ne.symm hy]] at e; exact e
          have hx' : (m.x == m0.x) = true := by simpa using hx
          have hy' : (m.y == m0.y) = false := by simpa using hy
          clear hx hy HN2
          (refine wp_region_und (by kernel_rfl) (by kernel_rfl) (fun hund => ?_); (repeat (go_big_quiet_step (fail))); with_reducible refine wpQuiet_nil ?_; clear hund; intro W1 hb1; obtain ⟨hc1, hf1⟩ := undcell hb1)
          have HB1 : Hid (Below w.heap.size w W1) := HBV.out.trans (hb1.mono HBV.out.size)
          clear hb1 hc1 hf1
          go_wp2
          go_roundw
          case rel => exact ⟨k + 1, false, by omega, by go_num, by first | rfl | trivial, HZ.out, HB1.out⟩
          case measure => simp [intOf]; omega
      · have HZ : Hid (C = msG m0 false (s.drop (k + 1))) := by
          have e := HN2.out
          rw [show aptM m0 m = true by unfold aptM; simp [Ne.symm hx]] at e; exact e
        have hx' : (m.x == m0.x) = false := by simpa using hx
        clear hx HN2
        (refine wp_region_und (by kernel_rfl) (by kernel_rfl) (fun hund => ?_); (repeat (go_big_quiet_step (fail))); with_reducible refine wpQuiet_nil ?_; clear hund; intro W1 hb1; obtain ⟨hc1, hf1⟩ := undcell hb1)
        have HB1 : Hid (Below w.heap.size w W1) := HBV.out.trans (hb1.mono HBV.out.size)
        clear hb1 hc1 hf1
        go_wp2
        go_roundw
        case rel => exact ⟨k + 1, false, by omega, by go_num, by first | rfl | trivial, HZ.out, HB1.out⟩
        case measure => simp [intOf]; omega
    · have HM : Hid (C = if one then 1 else 0) := by
        unfold Hid; rw [hR.out.1, List.drop_eq_nil_of_le (by rw [← H.out.2.1]; omega)]; rfl
      cases one with
      | true =>
        go_wp2
        go_returns
        exact ⟨by rw [HM.out]; rfl, hR.out.2⟩
      | false =>
        go_wp2
        go_returns
        exact ⟨by rw [HM.out]; rfl, hR.out.2⟩

end Go.Proofs.Ytdidmjgilnhncaa
