/- Proved here: the fault of marks, of the program: msF. -/
import Derived.Test.YtdidmjgilnhncaaMaM
import Derived.Test.YtdidmjgilnhncaaInsC
namespace Go.Proofs.Ytdidmjgilnhncaa
open Go.RowKit
set_option linter.unusedVariables false
set_option linter.unusedSimpArgs false

set_option maxRecDepth 10000 in
set_option maxHeartbeats 3200000 in
theorem impl_beyond (m : Mrk) (w : World) :
    Calls Try.prog 46 #[.agg #[.int .i64 m.x, .int .i64 m.y, .int .i64 m.dx, .int .i64 m.dy]] w fun e w' => e = .returned (.bool (beyM m)) ∧ Below w.heap.size w w' := by
  obtain ⟨r1, h1⟩ : ∃ r, r = decide (-50 ≤ m.x ∧ m.x ≤ 50) := ⟨_, rfl⟩
  obtain ⟨r2, h2⟩ : ∃ r, r = decide (-50 ≤ m.y ∧ m.y ≤ 50) := ⟨_, rfl⟩
  obtain ⟨r3, h3⟩ : ∃ r, r = decide (-1000 ≤ m.dx ∧ m.dx ≤ 1000) := ⟨_, rfl⟩
  obtain ⟨r4, h4⟩ : ∃ r, r = decide (-1000 ≤ m.dy ∧ m.dy ≤ 1000) := ⟨_, rfl⟩
  have HE : Hid (beyM m = (!r1 || !r2 || !r3 || !r4)) := by unfold Hid beyM; rw [h1, h2, h3, h4]
  obtain ⟨x, y, dx, dy⟩ := m
  have H1 : Hid (∀ W, Calls Try.prog 57 #[.int .i64 x, .int .i64 (-50), .int .i64 50] W fun e w' => e = .returned (.bool r1) ∧ w' = W) := fun W => impl_insC _ _ _ _ h1 W
  have H2 : Hid (∀ W, Calls Try.prog 57 #[.int .i64 y, .int .i64 (-50), .int .i64 50] W fun e w' => e = .returned (.bool r2) ∧ w' = W) := fun W => impl_insC _ _ _ _ h2 W
  have H3 : Hid (∀ W, Calls Try.prog 57 #[.int .i64 dx, .int .i64 (-1000), .int .i64 1000] W fun e w' => e = .returned (.bool r3) ∧ w' = W) := fun W => impl_insC _ _ _ _ h3 W
  have H4 : Hid (∀ W, Calls Try.prog 57 #[.int .i64 dy, .int .i64 (-1000), .int .i64 1000] W fun e w' => e = .returned (.bool r4) ∧ w' = W) := fun W => impl_insC _ _ _ _ h4 W
  clear h1 h2 h3 h4
  go_enter Try.func46, Try.ntmps46
  go_wp2_with (fail)
  refine (H1.out _).mono ?_
  rintro e w1 ⟨rfl, rfl⟩
  cases r1 with
  | false =>
    go_wp2
    go_returns
    exact ⟨by rw [HE.out]; rfl, by (repeat' (first | (with_reducible exact Below.refl _ _) | (with_reducible assumption) | (with_reducible refine Below.setCell ?_ ?_ _) | (with_reducible refine Below.alloc ?_ ?_ _) | (with_reducible refine below_drewN ?_ _) | (with_reducible refine Below.drew ?_) | (with_reducible exact Nat.le_refl _) | omega | (simp; done) | (simp; omega)))⟩
  | true =>
  go_wp2_with (fail)
  refine (H2.out _).mono ?_
  rintro e w2 ⟨rfl, rfl⟩
  cases r2 with
  | false =>
    go_wp2
    go_returns
    exact ⟨by rw [HE.out]; rfl, by (repeat' (first | (with_reducible exact Below.refl _ _) | (with_reducible assumption) | (with_reducible refine Below.setCell ?_ ?_ _) | (with_reducible refine Below.alloc ?_ ?_ _) | (with_reducible refine below_drewN ?_ _) | (with_reducible refine Below.drew ?_) | (with_reducible exact Nat.le_refl _) | omega | (simp; done) | (simp; omega)))⟩
  | true =>
  go_wp2_with (fail)
  refine (H3.out _).mono ?_
  rintro e w3 ⟨rfl, rfl⟩
  cases r3 with
  | false =>
    go_wp2
    go_returns
    exact ⟨by rw [HE.out]; rfl, by (repeat' (first | (with_reducible exact Below.refl _ _) | (with_reducible assumption) | (with_reducible refine Below.setCell ?_ ?_ _) | (with_reducible refine Below.alloc ?_ ?_ _) | (with_reducible refine below_drewN ?_ _) | (with_reducible refine Below.drew ?_) | (with_reducible exact Nat.le_refl _) | omega | (simp; done) | (simp; omega)))⟩
  | true =>
  go_wp2_with (fail)
  refine (H4.out _).mono ?_
  rintro e w4 ⟨rfl, rfl⟩
  cases r4 with
  | false =>
    go_wp2
    go_returns
    exact ⟨by rw [HE.out]; rfl, by (repeat' (first | (with_reducible exact Below.refl _ _) | (with_reducible assumption) | (with_reducible refine Below.setCell ?_ ?_ _) | (with_reducible refine Below.alloc ?_ ?_ _) | (with_reducible refine below_drewN ?_ _) | (with_reducible refine Below.drew ?_) | (with_reducible exact Nat.le_refl _) | omega | (simp; done) | (simp; omega)))⟩
  | true =>
    go_wp2
    go_returns
    exact ⟨by rw [HE.out]; rfl, by (repeat' (first | (with_reducible exact Below.refl _ _) | (with_reducible assumption) | (with_reducible refine Below.setCell ?_ ?_ _) | (with_reducible refine Below.alloc ?_ ?_ _) | (with_reducible refine below_drewN ?_ _) | (with_reducible refine Below.drew ?_) | (with_reducible exact Nat.le_refl _) | omega | (simp; done) | (simp; omega)))⟩

set_option maxRecDepth 10000 in
set_option maxHeartbeats 3200000 in
theorem impl_apart (a m : Mrk) (w : World) :
    Calls Try.prog 47 #[.agg #[.int .i64 a.x, .int .i64 a.y, .int .i64 a.dx, .int .i64 a.dy], .agg #[.int .i64 m.x, .int .i64 m.y, .int .i64 m.dx, .int .i64 m.dy]] w fun e w' => e = .returned (.bool (aptM a m)) ∧ Below w.heap.size w w' := by
  obtain ⟨B, hB⟩ : ∃ B, B = aptM a m := ⟨_, rfl⟩
  rw [← hB]
  have HE : Hid (B = (decide (a.x ≠ m.x) || decide (a.y ≠ m.y))) := hB
  clear hB
  obtain ⟨x, y, dx, dy⟩ := a
  obtain ⟨x2, y2, dx2, dy2⟩ := m
  by_cases h1 : x = x2
  · by_cases h2 : y = y2
    · have HB : Hid (B = false) := by unfold Hid; rw [HE.out]; simp [h1, h2]
      clear HE
      subst h1 h2
      go_enter Try.func47, Try.ntmps47
      go_wp2
      go_returns
      exact ⟨by rw [HB.out]; rfl, by (repeat' (first | (with_reducible exact Below.refl _ _) | (with_reducible assumption) | (with_reducible refine Below.setCell ?_ ?_ _) | (with_reducible refine Below.alloc ?_ ?_ _) | (with_reducible refine below_drewN ?_ _) | (with_reducible refine Below.drew ?_) | (with_reducible exact Nat.le_refl _) | omega | (simp; done) | (simp; omega)))⟩
    · have HB : Hid (B = true) := by unfold Hid; rw [HE.out]; simp [h2]
      have h3 : (y != y2) = true := by simpa using h2
      clear HE h2
      subst h1
      go_enter Try.func47, Try.ntmps47
      go_wp2
      go_returns
      exact ⟨by rw [HB.out]; rfl, by (repeat' (first | (with_reducible exact Below.refl _ _) | (with_reducible assumption) | (with_reducible refine Below.setCell ?_ ?_ _) | (with_reducible refine Below.alloc ?_ ?_ _) | (with_reducible refine below_drewN ?_ _) | (with_reducible refine Below.drew ?_) | (with_reducible exact Nat.le_refl _) | omega | (simp; done) | (simp; omega)))⟩
  · have HB : Hid (B = true) := by unfold Hid; rw [HE.out]; simp [h1]
    have h3 : (x != x2) = true := by simpa using h1
    clear HE h1
    go_enter Try.func47, Try.ntmps47
    go_wp2
    go_returns
    exact ⟨by rw [HB.out]; rfl, by (repeat' (first | (with_reducible exact Below.refl _ _) | (with_reducible assumption) | (with_reducible refine Below.setCell ?_ ?_ _) | (with_reducible refine Below.alloc ?_ ?_ _) | (with_reducible refine below_drewN ?_ _) | (with_reducible refine Below.drew ?_) | (with_reducible exact Nat.le_refl _) | omega | (simp; done) | (simp; omega)))⟩

set_option maxRecDepth 10000 in
set_option maxHeartbeats 3200000 in
theorem impl_ixBey {w : World} {v : Value} {s : List Mrk} (hn : s.length ≤ 1048576) (h : RG 4 maC w v s) :
    Calls Try.prog 72 #[v, .func (Fn.func 46) #[] #[]] w fun e w' => ∃ r : Int, e = .returned (.int .i64 r) ∧ decide (0 ≤ r) = s.any beyM ∧ Below w.heap.size w w' := by
  obtain ⟨a, c, rfl⟩ := h.form
  obtain ⟨n, hnn⟩ : ∃ n, n = s.length := ⟨_, rfl⟩
  rw [← hnn] at h hn ⊢
  obtain ⟨G, hG⟩ : ∃ G, G = s.any beyM := ⟨_, rfl⟩
  rw [← hG]
  have H : Hid (RG 4 maC w (.slice a n c) s ∧ n = s.length ∧ G = s.any beyM) := ⟨h, hnn, hG⟩
  clear h hnn hG
  go_enter Try.func72, Try.ntmps72
  go_wp2
  go_loopw [8] (fun i wr => ∃ k : Nat, k ≤ n ∧ i = .int .i64 k ∧ Hid (G = (s.drop k).any beyM ∧ Below w.heap.size w wr)) (fun i _ => n - (intOf i).toNat)
  case atStart => exact ⟨0, Nat.zero_le _, rfl, H.out.2.2, Below.refl _ _⟩
  case round =>
    obtain ⟨k, hk, rfl, hR⟩ := hrel
    by_cases hlt : k < n
    · have hjl : k < s.length := by rw [← H.out.2.1]; exact hlt
      obtain ⟨g, o, c2, he, hg, hj⟩ := (H.out.1.below hR.out.2).pos (by omega)
      simp only [Value.slice.injEq] at he
      obtain ⟨rfl, hx1, hx2⟩ := he
      clear hx1 hx2
      obtain ⟨c0, c1, c2', c3⟩ := maC_at (hj k hjl)
      obtain ⟨m, hm⟩ : ∃ m, m = s[k] := ⟨_, rfl⟩
      rw [← hm] at c0 c1 c2' c3
      obtain ⟨q, hq⟩ : ∃ q, q = beyM m := ⟨_, rfl⟩
      have HQ : Hid (G = (q || (s.drop (k + 1)).any beyM)) := by unfold Hid; rw [hR.out.1, any_drop hjl, hq, hm]
      have HC : Hid (∀ W, Calls Try.prog 46 #[.agg #[.int .i64 m.x, .int .i64 m.y, .int .i64 m.dx, .int .i64 m.dy]] W fun e w' => e = .returned (.bool q) ∧ Below W.heap.size W w') := fun W => by rw [hq]; exact impl_beyond m W
      clear hj hm hq
      have b0 : (0 : Int) ≤ (k : Int) := by omega
      have b1 : (k : Int) < (n : Int) := by omega
      go_wp2_with (fail)
      refine (HC.out _).mono ?_
      rintro e w5 ⟨rfl, hb5⟩
      have HB : Hid (Below w.heap.size w w5) := hR.out.2.trans (hb5.mono hR.out.2.size)
      clear HC hb5 hR c0 c1 c2' c3
      cases q with
      | true =>
        go_wp2
        go_returns
        exact ⟨(k : Int), rfl, by rw [HQ.out, decide_eq_true b0]; rfl, HB.out⟩
      | false =>
        go_wp2
        go_roundw
        case rel => exact ⟨k + 1, by omega, by go_num, HQ.out, HB.out⟩
        case measure => simp [intOf]; omega
    · have HM : Hid (G = false) := by
        unfold Hid; rw [hR.out.1, List.drop_eq_nil_of_le (by rw [← H.out.2.1]; omega)]; rfl
      go_wp2
      go_returns
      exact ⟨-1, rfl, by rw [HM.out]; rfl, hR.out.2⟩

set_option maxHeartbeats 1600000 in
theorem impl_anyBey {w : World} {v : Value} {s : List Mrk} (hn : s.length ≤ 1048576) (h : RG 4 maC w v s) :
    Calls Try.prog 45 #[v, .func (Fn.func 46) #[] #[]] w fun e w' => e = .returned (.bool (s.any beyM)) ∧ Below w.heap.size w w' := by
  obtain ⟨a, c, rfl⟩ := h.form
  have HC : Hid (Calls Try.prog 72 #[.slice a s.length c, .func (Fn.func 46) #[] #[]] w fun e w' => ∃ r : Int, e = .returned (.int .i64 r) ∧ decide (0 ≤ r) = s.any beyM ∧ Below w.heap.size w w') := impl_ixBey hn h
  obtain ⟨n, hnn⟩ : ∃ n, n = s.length := ⟨_, rfl⟩
  obtain ⟨B, hB⟩ : ∃ B, B = s.any beyM := ⟨_, rfl⟩
  rw [← hnn, ← hB] at HC
  rw [← hnn, ← hB]
  clear h hnn hn hB
  go_enter Try.func45, Try.ntmps45
  go_wp2_with (fail)
  refine HC.out.mono ?_
  rintro e w5 ⟨r, rfl, hr, hb⟩
  have HR : Hid (decide (0 ≤ r) = B ∧ Below w.heap.size w w5) := ⟨hr, hb⟩
  clear HC hr hb
  go_wp2
  go_returns
  exact ⟨by rw [← HR.out.1]; rfl, HR.out.2⟩

set_option maxRecDepth 10000 in
set_option maxHeartbeats 3200000 in
theorem impl_ixApt (a0 : Mrk) {w : World} {v : Value} {s : List Mrk} (hn : s.length ≤ 1048576) (h : RG 4 maC w v s) :
    Calls Try.prog 72 #[v, .func (Fn.func 47) #[.agg #[.int .i64 a0.x, .int .i64 a0.y, .int .i64 a0.dx, .int .i64 a0.dy]] #[]] w fun e w' => ∃ r : Int, e = .returned (.int .i64 r) ∧ decide (0 ≤ r) = s.any (aptM a0) ∧ Below w.heap.size w w' := by
  obtain ⟨a, c, rfl⟩ := h.form
  obtain ⟨n, hnn⟩ : ∃ n, n = s.length := ⟨_, rfl⟩
  rw [← hnn] at h hn ⊢
  obtain ⟨G, hG⟩ : ∃ G, G = s.any (aptM a0) := ⟨_, rfl⟩
  rw [← hG]
  have H : Hid (RG 4 maC w (.slice a n c) s ∧ n = s.length ∧ G = s.any (aptM a0)) := ⟨h, hnn, hG⟩
  clear h hnn hG
  go_enter Try.func72, Try.ntmps72
  go_wp2
  go_loopw [8] (fun i wr => ∃ k : Nat, k ≤ n ∧ i = .int .i64 k ∧ Hid (G = (s.drop k).any (aptM a0) ∧ Below w.heap.size w wr)) (fun i _ => n - (intOf i).toNat)
  case atStart => exact ⟨0, Nat.zero_le _, rfl, H.out.2.2, Below.refl _ _⟩
  case round =>
    obtain ⟨k, hk, rfl, hR⟩ := hrel
    by_cases hlt : k < n
    · have hjl : k < s.length := by rw [← H.out.2.1]; exact hlt
      obtain ⟨g, o, c2, he, hg, hj⟩ := (H.out.1.below hR.out.2).pos (by omega)
      simp only [Value.slice.injEq] at he
      obtain ⟨rfl, hx1, hx2⟩ := he
      clear hx1 hx2
      obtain ⟨c0, c1, c2', c3⟩ := maC_at (hj k hjl)
      obtain ⟨m, hm⟩ : ∃ m, m = s[k] := ⟨_, rfl⟩
      rw [← hm] at c0 c1 c2' c3
      obtain ⟨q, hq⟩ : ∃ q, q = (aptM a0) m := ⟨_, rfl⟩
      have HQ : Hid (G = (q || (s.drop (k + 1)).any (aptM a0))) := by unfold Hid; rw [hR.out.1, any_drop hjl, hq, hm]
      have HC : Hid (∀ W, Calls Try.prog 47 #[.agg #[.int .i64 a0.x, .int .i64 a0.y, .int .i64 a0.dx, .int .i64 a0.dy], .agg #[.int .i64 m.x, .int .i64 m.y, .int .i64 m.dx, .int .i64 m.dy]] W fun e w' => e = .returned (.bool q) ∧ Below W.heap.size W w') := fun W => by rw [hq]; exact impl_apart a0 m W
      clear hj hm hq
      have b0 : (0 : Int) ≤ (k : Int) := by omega
      have b1 : (k : Int) < (n : Int) := by omega
      go_wp2_with (fail)
      refine (HC.out _).mono ?_
      rintro e w5 ⟨rfl, hb5⟩
      have HB : Hid (Below w.heap.size w w5) := hR.out.2.trans (hb5.mono hR.out.2.size)
      clear HC hb5 hR c0 c1 c2' c3
      cases q with
      | true =>
        go_wp2
        go_returns
        exact ⟨(k : Int), rfl, by rw [HQ.out, decide_eq_true b0]; rfl, HB.out⟩
      | false =>
        go_wp2
        go_roundw
        case rel => exact ⟨k + 1, by omega, by go_num, HQ.out, HB.out⟩
        case measure => simp [intOf]; omega
    · have HM : Hid (G = false) := by
        unfold Hid; rw [hR.out.1, List.drop_eq_nil_of_le (by rw [← H.out.2.1]; omega)]; rfl
      go_wp2
      go_returns
      exact ⟨-1, rfl, by rw [HM.out]; rfl, hR.out.2⟩

set_option maxHeartbeats 1600000 in
theorem impl_anyApt (a0 : Mrk) {w : World} {v : Value} {s : List Mrk} (hn : s.length ≤ 1048576) (h : RG 4 maC w v s) :
    Calls Try.prog 45 #[v, .func (Fn.func 47) #[.agg #[.int .i64 a0.x, .int .i64 a0.y, .int .i64 a0.dx, .int .i64 a0.dy]] #[]] w fun e w' => e = .returned (.bool (s.any (aptM a0))) ∧ Below w.heap.size w w' := by
  obtain ⟨a, c, rfl⟩ := h.form
  have HC : Hid (Calls Try.prog 72 #[.slice a s.length c, .func (Fn.func 47) #[.agg #[.int .i64 a0.x, .int .i64 a0.y, .int .i64 a0.dx, .int .i64 a0.dy]] #[]] w fun e w' => ∃ r : Int, e = .returned (.int .i64 r) ∧ decide (0 ≤ r) = s.any (aptM a0) ∧ Below w.heap.size w w') := impl_ixApt a0 hn h
  obtain ⟨n, hnn⟩ : ∃ n, n = s.length := ⟨_, rfl⟩
  obtain ⟨B, hB⟩ : ∃ B, B = s.any (aptM a0) := ⟨_, rfl⟩
  rw [← hnn, ← hB] at HC
  rw [← hnn, ← hB]
  clear h hnn hn hB
  go_enter Try.func45, Try.ntmps45
  go_wp2_with (fail)
  refine HC.out.mono ?_
  rintro e w5 ⟨r, rfl, hr, hb⟩
  have HR : Hid (decide (0 ≤ r) = B ∧ Below w.heap.size w w5) := ⟨hr, hb⟩
  clear HC hr hb
  go_wp2
  go_returns
  exact ⟨by rw [← HR.out.1]; rfl, HR.out.2⟩

set_option maxRecDepth 10000 in
set_option maxHeartbeats 6400000 in
theorem impl_msF {w : World} {v : Value} {s : List Mrk} (hn : s.length ≤ 1048576) (h : RG 4 maC w v s) :
    Calls Try.prog 18 #[v] w fun e w' => e = .returned (.int .i64 (msF s)) ∧ Below w.heap.size w w' := by
  obtain ⟨a, c, rfl⟩ := h.form
  obtain ⟨n, hnn⟩ : ∃ n, n = s.length := ⟨_, rfl⟩
  obtain ⟨C, hC⟩ : ∃ C, C = msF s := ⟨_, rfl⟩
  rw [← hnn] at h hn ⊢
  rw [← hC]
  have H : Hid (RG 4 maC w (.slice a n c) s ∧ n = s.length ∧ C = msF s) := ⟨h, hnn, hC⟩
  clear h hnn hC
  by_cases h1 : (n : Int) < 2
  · have HC : Hid (C = 1) := by unfold Hid; rw [H.out.2.2, msF_few (by rw [← H.out.2.1]; omega)]
    clear H
    go_enter Try.func18, Try.ntmps18
    go_wp2
    go_returns
    exact ⟨by rw [HC.out]; rfl, Below.refl _ _⟩
  by_cases h2 : (20 : Int) < (n : Int)
  · have HC : Hid (C = 2) := by unfold Hid; rw [H.out.2.2, msF_many (by rw [← H.out.2.1]; omega)]
    clear H
    go_enter Try.func18, Try.ntmps18
    go_wp2
    go_returns
    exact ⟨by rw [HC.out]; rfl, Below.refl _ _⟩
  obtain ⟨m, t, rfl⟩ : ∃ m t, s = m :: t := by
    have := H.out.2.1
    cases s with
    | nil => simp at this; omega
    | cons m t => exact ⟨m, t, rfl⟩
  obtain ⟨p, hp⟩ : ∃ p, p = (m :: t).any beyM := ⟨_, rfl⟩
  obtain ⟨q, hq⟩ : ∃ q, q = (m :: t).any (aptM m) := ⟨_, rfl⟩
  have HC : Hid (C = if p then 3 else if !q then 1 else 0) := by
    have e := H.out.2.1
    unfold Hid; rw [H.out.2.2, msF_is2 (by rw [← e]; omega) (by rw [← e]; omega), hp, hq]
  have HP : Hid (∀ W, Below w.heap.size w W → Calls Try.prog 45 #[.slice a n c, .func (Fn.func 46) #[] #[]] W fun e w' => e = .returned (.bool p) ∧ Below W.heap.size W w') := fun W hW => by rw [hp]; exact impl_anyBey (by rw [← H.out.2.1]; exact hn) (H.out.1.below hW)
  have HQ : Hid (∀ W, Below w.heap.size w W → Calls Try.prog 45 #[.slice a n c, .func (Fn.func 47) #[.agg #[.int .i64 m.x, .int .i64 m.y, .int .i64 m.dx, .int .i64 m.dy]] #[]] W fun e w' => e = .returned (.bool q) ∧ Below W.heap.size W w') := fun W hW => by rw [hq]; exact impl_anyApt m (by rw [← H.out.2.1]; exact hn) (H.out.1.below hW)
  clear hp hq
  obtain ⟨g, o, c2, he, hg, hj⟩ := H.out.1.pos (by simp)
  simp only [Value.slice.injEq] at he
  obtain ⟨rfl, hx1, hx2⟩ := he
  clear hx1 hx2
  have hj0 := hj 0 (by simp)
  simp only [Nat.zero_mul, Nat.add_zero, List.getElem_cons_zero] at hj0
  have HJ : Hid (∀ i, i < 4 → w.cell? ⟨g, o + i, none⟩ = (maC m)[i]?) := hj0
  have HG : Hid (g < w.heap.size) := hg
  clear hj hj0 hg H
  have b0 : (0 : Int) < (n : Int) := by omega
  go_enter Try.func18, Try.ntmps18
  go_wp2_with (fail)
  refine (HP.out _ (Below.refl _ _)).mono ?_
  rintro e w1 ⟨rfl, hb1⟩
  have HB1 : Hid (Below w.heap.size w w1) := hb1
  cases p with
  | true =>
    clear hb1
    go_wp2
    go_returns
    exact ⟨by rw [HC.out]; rfl, HB1.out⟩
  | false =>
  obtain ⟨c0, c1, c2', c3⟩ := maC_at (w := w1) (g := g) (o := o) (x := m) (fun i hi => (hb1.cell (p := ⟨g, o + i, none⟩) HG.out).trans (HJ.out i hi))
  clear hb1
  go_wp2_with (fail)
  refine (HQ.out _ HB1.out).mono ?_
  rintro e w2 ⟨rfl, hb2⟩
  have HB2 : Hid (Below w.heap.size w w2) := HB1.out.trans (hb2.mono HB1.out.size)
  clear hb2 c0 c1 c2' c3
  cases q with
  | true =>
    go_wp2
    go_returns
    exact ⟨by rw [HC.out]; rfl, HB2.out⟩
  | false =>
    go_wp2
    go_returns
    exact ⟨by rw [HC.out]; rfl, HB2.out⟩

end Go.Proofs.Ytdidmjgilnhncaa
