/- Proved here: CapableOf of the model: cpQ. -/
import Derived.Test.YtcdpaokmjoklcaaCaQ
import Derived.Test.YtcdpaokmjoklcaaChS
import Derived.Test.YtcdpaokmjoklcaaBnS
import Derived.Deep.DeepCutAuto
namespace Go.Proofs.Ytcdpaokmjoklcaa
open Go.RowKit
set_option linter.unusedVariables false
set_option linter.unusedSimpArgs false

set_option maxHeartbeats 800000 in
theorem spec_mn16 (a b : Int) (w : World) : Calls Try.prog 22 #[.int .i64 a, .int .i64 b] w fun e w' => e = .returned (.int .i64 (if b < a then b else a)) ∧ w' = w := by
  rcases (by omega : b < a ∨ a = b ∨ a < b) with h | h | h
  · rw [if_pos h]
    go_enter Try.func22, Try.ntmps22
    go_wp2
    go_returns
    exact ⟨rfl, rfl⟩
  · subst h
    rw [if_neg (by omega)]
    go_enter Try.func22, Try.ntmps22
    go_wp2
    go_returns
    exact ⟨rfl, rfl⟩
  · rw [if_neg (by omega)]
    go_enter Try.func22, Try.ntmps22
    go_wp2
    go_returns
    exact ⟨rfl, rfl⟩

set_option maxRecDepth 10000 in
set_option maxHeartbeats 3200000 in
theorem spec_cp (lo hi : Int) {w : World} {v : Value} {s : List Int} (hn : s.length ≤ 1048576) (h : RdI w v s) :
    Calls Try.prog 9 #[v, .int .i64 lo, .int .i64 hi] w fun e w' => e = .returned (.agg #[.int .i64 (cpQ lo hi s).c, .int .i64 (cpQ lo hi s).n, .int .i64 (cpQ lo hi s).d]) ∧ Below w.heap.size w w' := by
  obtain ⟨a, c, rfl⟩ := h.form
  obtain ⟨n, hnn⟩ : ∃ n, n = s.length := ⟨_, rfl⟩
  obtain ⟨R, hR⟩ : ∃ R, R = cpQ lo hi s := ⟨_, rfl⟩
  obtain ⟨Fa, hFa⟩ : ∃ F, F = chF s := ⟨_, rfl⟩
  rw [← hnn] at hn h ⊢
  rw [← hR]
  have HC : Hid (R = if Fa = 0 then (if n < 2 then ⟨4, 0, 0⟩ else if lo < hi ∧ -1000000 ≤ lo ∧ hi ≤ 1000000 then mqQ (if leK s (n - 1) - lo < hi - gtK s (n - 1) then leK s (n - 1) - lo else hi - gtK s (n - 1)) (gtK s (n - 1) - leK s (n - 1)) else ⟨3, 0, 0⟩) else ⟨Fa, 0, 0⟩) := by
    unfold Hid; rw [hR, hFa, hnn]; rfl
  have HF : Hid (∀ W, Below w.heap.size w W → Calls Try.prog 20 #[.slice a n c] W fun e w' => e = .returned (.int .i64 Fa) ∧ w' = W) := fun W hW => by rw [hFa]; exact spec_ch (by omega) (h.below hW)
  have H : Hid (RdI w (.slice a n c) s ∧ n = s.length ∧ Fa = chF s) := ⟨h, hnn, hFa⟩
  clear h hnn hR hFa
  obtain ⟨rc, rn, rd⟩ := R
  show Calls Try.prog 9 #[.slice a n c, .int .i64 lo, .int .i64 hi] w fun e w' => e = .returned (.agg #[.int .i64 rc, .int .i64 rn, .int .i64 rd]) ∧ Below w.heap.size w w'
  obtain ⟨W0, hW0⟩ : ∃ W, W = w.alloc (.cells #[.int .i64 0, .int .i64 0, .int .i64 0] 35) := ⟨_, rfl⟩
  have HW0 : Hid (Below w.heap.size w W0 ∧ W0.heap[w.heap.size]? = some (.cells #[.int .i64 0, .int .i64 0, .int .i64 0] 35)) := by rw [hW0]; exact ⟨by (repeat' (first | (with_reducible exact Below.refl _ _) | (with_reducible assumption) | (with_reducible refine Below.setCell ?_ ?_ _) | (with_reducible refine Below.alloc ?_ ?_ _) | (with_reducible refine below_drewN ?_ _) | (with_reducible refine Below.drew ?_) | (with_reducible exact Nat.le_refl _) | omega | (simp; done) | (simp; omega))), heap_alloc_new _ _⟩
  go_enter Try.func9, Try.ntmps9
  go_wp2_with (fail)
  rw [← hW0]
  clear hW0
  refine (HF.out _ HW0.out.1).mono ?_
  rintro e w1 ⟨rfl, hw⟩
  subst w1
  clear HF
  have p0 := cellOf HW0.out.2 0 rfl
  have p1 := cellOf HW0.out.2 1 rfl
  have p2 := cellOf HW0.out.2 2 rfl
  have pf0 := frozOf HW0.out.2 0
  have pf1 := frozOf HW0.out.2 1
  have pf2 := frozOf HW0.out.2 2
  have pl := ltOf HW0.out.2
  by_cases hF0 : Fa = 0
  case neg =>
    have HZ : Hid (rc = Fa ∧ rn = 0 ∧ rd = 0) := by
      have h1 := HC.out; rw [if_neg hF0] at h1; injection h1 with h2 h3 h4; exact ⟨h2, h3, h4⟩
    have hA : (Fa != 0) = true := by simpa using hF0
    clear H HC
    go_wp2
    try simp only [Exit.inBlock, Exit.then]
    refine bodyPost_ret (by simp [results, Try.results9, go_sem, p0, p1, p2, pl]; try rfl) rfl ⟨by rw [HZ.out.1, HZ.out.2.1, HZ.out.2.2], ?_⟩
    have hb := HW0.out.1
    (repeat' (first | (with_reducible exact Below.refl _ _) | (with_reducible assumption) | (with_reducible refine Below.setCell ?_ ?_ _) | (with_reducible refine Below.alloc ?_ ?_ _) | (with_reducible refine below_drewN ?_ _) | (with_reducible refine Below.drew ?_) | (with_reducible exact Nat.le_refl _) | omega | (simp; done) | (simp; omega)))
  have hA : (Fa != 0) = false := by rw [hF0]; rfl
  have HF0 : Hid (Fa = 0) := hF0
  clear hF0
  by_cases h2 : n < 2
  · have HZ : Hid (rc = 4 ∧ rn = 0 ∧ rd = 0) := by
      have h1 := HC.out; rw [if_pos HF0.out, if_pos h2] at h1; injection h1 with h2 h3 h4; exact ⟨h2, h3, h4⟩
    have h2' : (n : Int) < 2 := by omega
    clear H HC
    go_wp2
    try simp only [Exit.inBlock, Exit.then]
    refine bodyPost_ret (by simp [results, Try.results9, go_sem, p0, p1, p2, pl]; try rfl) rfl ⟨by rw [HZ.out.1, HZ.out.2.1, HZ.out.2.2], ?_⟩
    have hb := HW0.out.1
    (repeat' (first | (with_reducible exact Below.refl _ _) | (with_reducible assumption) | (with_reducible refine Below.setCell ?_ ?_ _) | (with_reducible refine Below.alloc ?_ ?_ _) | (with_reducible refine below_drewN ?_ _) | (with_reducible refine Below.drew ?_) | (with_reducible exact Nat.le_refl _) | omega | (simp; done) | (simp; omega)))
  have h2' : ¬ (n : Int) < 2 := by omega
  by_cases g1 : lo < hi
  case neg =>
    have hno : ¬ (lo < hi ∧ -1000000 ≤ lo ∧ hi ≤ 1000000) := by omega
    have HZ : Hid (rc = 3 ∧ rn = 0 ∧ rd = 0) := by
      have h1 := HC.out; rw [if_pos HF0.out, if_neg h2, if_neg hno] at h1; injection h1 with h2 h3 h4; exact ⟨h2, h3, h4⟩
    clear hno
    have g1' : hi ≤ lo := by omega
    clear H HC
    go_wp2
    try simp only [Exit.inBlock, Exit.then]
    refine bodyPost_ret (by simp [results, Try.results9, go_sem, p0, p1, p2, pl]; try rfl) rfl ⟨by rw [HZ.out.1, HZ.out.2.1, HZ.out.2.2], ?_⟩
    have hb := HW0.out.1
    (repeat' (first | (with_reducible exact Below.refl _ _) | (with_reducible assumption) | (with_reducible refine Below.setCell ?_ ?_ _) | (with_reducible refine Below.alloc ?_ ?_ _) | (with_reducible refine below_drewN ?_ _) | (with_reducible refine Below.drew ?_) | (with_reducible exact Nat.le_refl _) | omega | (simp; done) | (simp; omega)))
  have g1' : ¬ hi ≤ lo := by omega
  obtain ⟨ql, hql⟩ : ∃ q, q = decide (-1000000 ≤ lo ∧ lo ≤ 1000000) := ⟨_, rfl⟩
  obtain ⟨qh, hqh⟩ : ∃ q, q = decide (-1000000 ≤ hi ∧ hi ≤ 1000000) := ⟨_, rfl⟩
  have HOl : Hid (∀ W, Calls Try.prog 21 #[.int .i64 lo] W fun e w' => e = .returned (.bool (!ql)) ∧ w' = W) := spec_out lo ql hql
  have HOh : Hid (∀ W, Calls Try.prog 21 #[.int .i64 hi] W fun e w' => e = .returned (.bool (!qh)) ∧ w' = W) := spec_out hi qh hqh
  have HQl : Hid (ql = decide (-1000000 ≤ lo ∧ lo ≤ 1000000)) := hql
  have HQh : Hid (qh = decide (-1000000 ≤ hi ∧ hi ≤ 1000000)) := hqh
  clear hql hqh
  go_wp2_with (fail)
  refine (HOl.out _).mono ?_
  rintro e w1 ⟨rfl, hw⟩
  subst w1
  cases ql
  · have hbad : ¬ (-1000000 ≤ lo ∧ lo ≤ 1000000) := by simpa using HQl.out
    have hno : ¬ (lo < hi ∧ -1000000 ≤ lo ∧ hi ≤ 1000000) := by omega
    have HZ : Hid (rc = 3 ∧ rn = 0 ∧ rd = 0) := by
      have h1 := HC.out; rw [if_pos HF0.out, if_neg h2, if_neg hno] at h1; injection h1 with h2 h3 h4; exact ⟨h2, h3, h4⟩
    clear hno
    clear hbad
    clear H HC
    go_wp2
    try simp only [Exit.inBlock, Exit.then]
    refine bodyPost_ret (by simp [results, Try.results9, go_sem, p0, p1, p2, pl]; try rfl) rfl ⟨by rw [HZ.out.1, HZ.out.2.1, HZ.out.2.2], ?_⟩
    have hb := HW0.out.1
    (repeat' (first | (with_reducible exact Below.refl _ _) | (with_reducible assumption) | (with_reducible refine Below.setCell ?_ ?_ _) | (with_reducible refine Below.alloc ?_ ?_ _) | (with_reducible refine below_drewN ?_ _) | (with_reducible refine Below.drew ?_) | (with_reducible exact Nat.le_refl _) | omega | (simp; done) | (simp; omega)))
  go_wp2_with (fail)
  refine (HOh.out _).mono ?_
  rintro e w1 ⟨rfl, hw⟩
  subst w1
  cases qh
  · have hbad : ¬ (-1000000 ≤ hi ∧ hi ≤ 1000000) := by simpa using HQh.out
    have hgood : -1000000 ≤ lo ∧ lo ≤ 1000000 := by simpa using HQl.out
    have hno : ¬ (lo < hi ∧ -1000000 ≤ lo ∧ hi ≤ 1000000) := by omega
    have HZ : Hid (rc = 3 ∧ rn = 0 ∧ rd = 0) := by
      have h1 := HC.out; rw [if_pos HF0.out, if_neg h2, if_neg hno] at h1; injection h1 with h2 h3 h4; exact ⟨h2, h3, h4⟩
    clear hno
    clear hbad hgood
    clear H HC
    go_wp2
    try simp only [Exit.inBlock, Exit.then]
    refine bodyPost_ret (by simp [results, Try.results9, go_sem, p0, p1, p2, pl]; try rfl) rfl ⟨by rw [HZ.out.1, HZ.out.2.1, HZ.out.2.2], ?_⟩
    have hb := HW0.out.1
    (repeat' (first | (with_reducible exact Below.refl _ _) | (with_reducible assumption) | (with_reducible refine Below.setCell ?_ ?_ _) | (with_reducible refine Below.alloc ?_ ?_ _) | (with_reducible refine below_drewN ?_ _) | (with_reducible refine Below.drew ?_) | (with_reducible exact Nat.le_refl _) | omega | (simp; done) | (simp; omega)))
  have g2 : -1000000 ≤ lo := by have h9 : -1000000 ≤ lo ∧ lo ≤ 1000000 := by simpa using HQl.out
                                exact h9.1
  have g3 : hi ≤ 1000000 := by have h9 : -1000000 ≤ hi ∧ hi ≤ 1000000 := by simpa using HQh.out
                               exact h9.2
  clear HQl HQh HOl HOh
  have hg := chL_good (H.out.2.2.symm.trans HF0.out)
  have hn200 : n ≤ 200 := by rw [H.out.2.1]; exact hg.1
  have HB : Hid (∀ k, k < s.length → (-1000000 ≤ leK s k ∧ leK s k ≤ 1000000) ∧ (-1000000 ≤ gtK s k ∧ gtK s k ≤ 1000000) ∧ leK s k ≤ gtK s k) := lg_bd hg.2
  have hlg := HB.out (n - 1) (by rw [← H.out.2.1]; omega)
  obtain ⟨L, hL⟩ : ∃ L, L = leK s (n - 1) := ⟨_, rfl⟩
  obtain ⟨G, hG⟩ : ∃ G, G = gtK s (n - 1) := ⟨_, rfl⟩
  rw [← hL, ← hG] at hlg
  obtain ⟨X, hX⟩ : ∃ X, X = if L - lo < hi - G then L - lo else hi - G := ⟨_, rfl⟩
  have hXb : -10000000 ≤ X ∧ X ≤ 10000000 := by rw [hX]; split <;> omega
  have HQ : Hid (Q3.mk rc rn rd = mqQ X (G - L)) := by
    have hall : lo < hi ∧ -1000000 ≤ lo ∧ hi ≤ 1000000 := ⟨g1, g2, g3⟩
    have h1 := HC.out
    rw [if_pos HF0.out, if_neg h2, if_pos hall, ← hL, ← hG, ← hX] at h1
    exact h1
  have HMQ : Hid (∀ W, Calls Try.prog 23 #[.int .i64 X, .int .i64 (G - L)] W fun e w' => e = .returned (.agg #[.int .i64 rc, .int .i64 rn, .int .i64 rd]) ∧ Below W.heap.size W w') := fun W => by
    have h1 := spec_mq X (G - L) hXb (by omega) W
    rw [← HQ.out] at h1
    exact h1
  have e1 : IntKind.i64.wrap (hi - G) = hi - G := by rw [IntKind.wrap_i64]; omega
  have e2 : IntKind.i64.wrap (L - lo) = L - lo := by rw [IntKind.wrap_i64]; omega
  have e3 : IntKind.i64.wrap (G - L) = G - L := by rw [IntKind.wrap_i64]; omega
  clear hg HC HF0 HQ
  have HX : Hid (X = if L - lo < hi - G then L - lo else hi - G) := hX
  have HMM : Hid (∀ W, Calls Try.prog 22 #[.int .i64 (hi - G), .int .i64 (L - lo)] W fun e w' => e = .returned (.int .i64 X) ∧ w' = W) := fun W => by rw [HX.out]; exact spec_mn16 _ _ W
  have HLG : Hid (L = leK s (n - 1) ∧ G = gtK s (n - 1)) := ⟨hL, hG⟩
  clear hL hG hX HX
  obtain ⟨g, o, c2, he, hg, hj⟩ := (H.out.1.below HW0.out.1).ri (by rw [← H.out.2.1]; omega)
  simp only [Value.slice.injEq] at he
  obtain ⟨rfl, hx1, hx2⟩ := he
  clear hx1 hx2
  have HJ : Hid (∀ j, j < s.length → W0.cell? ⟨g, o + j, none⟩ = some (.int .i64 (s.getD j 0))) := hj
  have c0 := hj 0 (by rw [← H.out.2.1]; omega)
  rw [Nat.add_zero] at c0
  obtain ⟨x0, hx0⟩ : ∃ x, x = s.getD 0 0 := ⟨_, rfl⟩
  rw [← hx0] at c0
  have HX0 : Hid (x0 = s.getD 0 0) := hx0
  clear hj hx0
  have z0 : (0 : Int) < (n : Int) := by omega
  go_wp2
  go_loopw [8, 9, 10] (fun gm lm i wr => ∃ k : Nat, k ≤ n ∧ gm = .int .i64 (gtK s (k - 1)) ∧ lm = .int .i64 (leK s (k - 1)) ∧ i = .int .i64 k ∧ W0 = wr) (fun _ _ i _ => n - (intOf i).toNat)
  case atStart => exact ⟨0, by omega, by rw [HX0.out]; rfl, by rw [HX0.out]; rfl, rfl, rfl⟩
  case round =>
    clear c0
    obtain ⟨k, hk, rfl, rfl, rfl, rfl⟩ := hrel
    obtain ⟨A, hA9⟩ : ∃ M, M = gtK s (k - 1) := ⟨_, rfl⟩
    obtain ⟨B, hB9⟩ : ∃ M, M = leK s (k - 1) := ⟨_, rfl⟩
    rw [← hA9, ← hB9]
    have HM : Hid (A = gtK s (k - 1) ∧ B = leK s (k - 1)) := ⟨hA9, hB9⟩
    clear hA9 hB9
    by_cases hlt : k < n
    · have c0 := HJ.out k (by rw [← H.out.2.1]; exact hlt)
      obtain ⟨x, hx⟩ : ∃ x, x = s.getD k 0 := ⟨_, rfl⟩
      rw [← hx] at c0
      have hA2 : (if A < x then x else A) = gtK s k := by
        rw [HM.out.1, hx]
        cases k with
        | zero => rw [gtK]; split <;> rfl
        | succ k => rw [gtK]; rfl
      have hB2 : (if x < B then x else B) = leK s k := by
        rw [HM.out.2, hx]
        cases k with
        | zero => rw [leK]; split <;> rfl
        | succ k => rw [leK]; rfl
      have HMX : Hid (∀ W, Calls Try.prog 16 #[.int .i64 A, .int .i64 x] W fun e w' => e = .returned (.int .i64 (gtK s k)) ∧ w' = W) := fun W => by rw [← hA2]; exact spec_mx16 A x W
      have HMN : Hid (∀ W, Calls Try.prog 22 #[.int .i64 B, .int .i64 x] W fun e w' => e = .returned (.int .i64 (leK s k)) ∧ w' = W) := fun W => by rw [← hB2]; exact spec_mn16 B x W
      have b0 : (0 : Int) ≤ (k : Int) := by omega
      have b1 : (k : Int) < (n : Int) := by omega
      clear hx hA2 hB2
      go_wp2_with (fail)
      refine (HMX.out _).mono ?_
      rintro e w1 ⟨rfl, hw⟩
      subst w1
      go_wp2_with (fail)
      refine (HMN.out _).mono ?_
      rintro e w1 ⟨rfl, hw⟩
      subst w1
      go_wp2
      go_roundw
      case rel => exact ⟨k + 1, by omega, rfl, rfl, by go_num, by first | rfl | trivial⟩
      case measure => simp [intOf]; omega
    · have hAG : A = G := by rw [HM.out.1, HLG.out.2, show k = n by omega]
      have hBL : B = L := by rw [HM.out.2, HLG.out.1, show k = n by omega]
      subst hAG hBL
      go_wp2_with (fail)
      refine (HMM.out _).mono ?_
      rintro e w1 ⟨rfl, hw⟩
      subst w1
      go_wp2_with (fail)
      refine (HMQ.out _).mono ?_
      rintro e w9 ⟨rfl, hb9⟩
      have HW9 : Hid (Below w.heap.size w w9 ∧ w9.heap[w.heap.size]? = some (.cells #[.int .i64 0, .int .i64 0, .int .i64 0] 35)) := ⟨HW0.out.1.trans (hb9.mono HW0.out.1.size), (hb9.block _ (ltOf HW0.out.2)).trans HW0.out.2⟩
      clear hb9 p0 p1 p2 pf0 pf1 pf2 pl
      have p0 := cellOf HW9.out.2 0 rfl
      have p1 := cellOf HW9.out.2 1 rfl
      have p2 := cellOf HW9.out.2 2 rfl
      have pf0 := frozOf HW9.out.2 0
      have pf1 := frozOf HW9.out.2 1
      have pf2 := frozOf HW9.out.2 2
      have pl := ltOf HW9.out.2
      go_wp2
      try simp only [Exit.inBlock, Exit.then]
      refine bodyPost_ret (by simp [results, Try.results9, go_sem, p0, p1, p2, pl]; try rfl) rfl ⟨rfl, ?_⟩
      have hb := HW9.out.1
      (repeat' (first | (with_reducible exact Below.refl _ _) | (with_reducible assumption) | (with_reducible refine Below.setCell ?_ ?_ _) | (with_reducible refine Below.alloc ?_ ?_ _) | (with_reducible refine below_drewN ?_ _) | (with_reducible refine Below.drew ?_) | (with_reducible exact Nat.le_refl _) | omega | (simp; done) | (simp; omega)))

end Go.Proofs.Ytcdpaokmjoklcaa
