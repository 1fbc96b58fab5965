/- Proved here: ShiftOf of the document's model: sgF, shV. -/
import Derived.Test.YtdidmjgilnhncaaSfM
import Derived.Test.YtdidmjgilnhncaaInS
import Derived.Test.YtdidmjgilnhncaaLwS
import Derived.Deep.DeepCutAuto
namespace Go.Proofs.Ytdidmjgilnhncaa
open Go.RowKit
set_option linter.unusedVariables false
set_option linter.unusedSimpArgs false

set_option maxRecDepth 10000 in
set_option maxHeartbeats 3200000 in
theorem spec_wave {w : World} {v : Value} {s : List Int} (hn : s.length ≤ 1048576) (h : RdI w v s) :
    Calls Try.prog 42 #[v] w fun e w' => e = .returned (.int .i64 (if s.any outS then 3 else 0)) ∧ w' = w := by
  obtain ⟨a, c, rfl⟩ := h.form
  obtain ⟨n, hnn⟩ : ∃ n, n = s.length := ⟨_, rfl⟩
  rw [← hnn] at h hn ⊢
  obtain ⟨C, hC⟩ : ∃ G : Int, G = if s.any outS then 3 else 0 := ⟨_, rfl⟩
  rw [← hC]
  have H : Hid (RdI w (.slice a n c) s ∧ n = s.length ∧ C = if s.any outS then 3 else 0) := ⟨h, hnn, hC⟩
  clear h hnn hC
  go_enter Try.func42, Try.ntmps42
  go_wp2
  go_loopw [3] (fun i wr => ∃ k : Nat, k ≤ n ∧ i = .int .i64 k ∧ wr = w ∧ Hid (C = if (s.drop k).any outS then 3 else 0)) (fun i _ => n - (intOf i).toNat)
  case atStart => exact ⟨0, Nat.zero_le _, rfl, rfl, H.out.2.2⟩
  case round =>
    obtain ⟨k, hk, rfl, rfl, hR⟩ := hrel
    by_cases hlt : k < n
    · obtain ⟨g, o, rfl, hg, c0⟩ := rd_at H.out.1 hlt
      obtain ⟨m, hm⟩ : ∃ m, m = s.getD k 0 := ⟨_, rfl⟩
      rw [← hm] at c0
      obtain ⟨r, hr⟩ : ∃ r, r = decide (-1000 ≤ m ∧ m ≤ 1000) := ⟨_, rfl⟩
      have HQ : Hid (C = if (!r || (s.drop (k + 1)).any outS) = true then 3 else 0) := by
        unfold Hid; rw [hR.out, any_dropI (by rw [← H.out.2.1]; exact hlt), ← hm]; unfold outS; rw [← hr]
      have HC : Hid (∀ W, Calls Try.prog 43 #[.int .i64 m, .int .i64 (-1000), .int .i64 1000] W fun e w' => e = .returned (.bool r) ∧ w' = W) := fun W => by rw [hr]; exact spec_in10 _ _ _ W
      clear hm hr hR
      have b0 : (0 : Int) ≤ (k : Int) := by omega
      have b1 : (k : Int) < (n : Int) := by omega
      go_wp2_with (fail)
      refine (HC.out _).mono ?_
      rintro e w5 ⟨rfl, hw5⟩
      obtain rfl : wr = w5 := hw5.symm
      clear HC
      cases r with
      | false =>
        have HZ : Hid (C = 3) := by unfold Hid; rw [HQ.out, if_pos (by rfl)]
        go_wp2
        go_returns
        exact ⟨by rw [HZ.out] <;> rfl, rfl⟩
      | true =>
        have HZ : Hid (C = if (s.drop (k + 1)).any outS then 3 else 0) := HQ.out
        go_wp2
        go_roundw
        case rel => exact ⟨k + 1, by omega, by go_num, by first | rfl | trivial, HZ.out⟩
        case measure => simp [intOf]; omega
    · have HM : Hid (C = 0) := by
        unfold Hid; rw [hR.out, List.drop_eq_nil_of_le (by rw [← H.out.2.1]; omega)]; rfl
      go_wp2
      go_returns
      exact ⟨by rw [HM.out] <;> rfl, rfl⟩

set_option maxRecDepth 10000 in
set_option maxHeartbeats 25600000 in
theorem spec_shV (most : Int) {w : World} {v u : Value} {s t : List Int} (hn : s.length ≤ 1048576) (hm : t.length ≤ 1048576) (h : RdI w v s) (h' : RdI w u t) :
    Calls Try.prog 12 #[v, u, .int .i64 most] w fun e w' => e = .returned (.agg #[.int .i64 (shC s t most), .int .i64 (shV s t most)]) ∧ Below w.heap.size w w' := by
  obtain ⟨a, c, rfl⟩ := h.form
  obtain ⟨a2, c2, rfl⟩ := h'.form
  obtain ⟨C, hC⟩ : ∃ C, C = sgF s t most := ⟨_, rfl⟩
  obtain ⟨R, hR⟩ : ∃ C, C = shV s t most := ⟨_, rfl⟩
  rw [show shC s t most = C from hC.symm, ← hR]
  obtain ⟨n, hnn⟩ : ∃ n, n = s.length := ⟨_, rfl⟩
  obtain ⟨m, hmm⟩ : ∃ n, n = t.length := ⟨_, rfl⟩
  obtain ⟨p, hp⟩ : ∃ p : Int, p = if s.any outS then 3 else 0 := ⟨_, rfl⟩
  obtain ⟨q, hq⟩ : ∃ p : Int, p = if t.any outS then 3 else 0 := ⟨_, rfl⟩
  obtain ⟨r, hr⟩ : ∃ r, r = decide (0 ≤ most ∧ most ≤ 100) := ⟨_, rfl⟩
  have HP : Hid (∀ W, Below w.heap.size w W → Calls Try.prog 42 #[.slice a n c] W fun e w' => e = .returned (.int .i64 p) ∧ w' = W) := fun W hW => by rw [hp, hnn]; exact spec_wave hn (h.below hW)
  have HQ : Hid (∀ W, Below w.heap.size w W → Calls Try.prog 42 #[.slice a2 m c2] W fun e w' => e = .returned (.int .i64 q) ∧ w' = W) := fun W hW => by rw [hq, hmm]; exact spec_wave hm (h'.below hW)
  have HI : Hid (∀ W, Calls Try.prog 43 #[.int .i64 most, .int .i64 0, .int .i64 100] W fun e w' => e = .returned (.bool r) ∧ w' = W) := fun W => by rw [hr]; exact spec_in10 _ _ _ W
  have HC : Hid (C = if n = 0 ∨ m = 0 then 1 else if 200 < n ∨ 200 < m then 2 else if p ≠ 0 ∨ q ≠ 0 ∨ ¬ (r = true) then 3 else 0) := by
    have e1 : (p ≠ 0) = (s.any outS = true) := by rw [hp]; cases s.any outS <;> simp
    have e2 : (q ≠ 0) = (t.any outS = true) := by rw [hq]; cases t.any outS <;> simp
    unfold Hid
    simp only [e1, e2]
    rw [hC, hnn, hmm, hr]
    simp only [decide_eq_true_eq]
    rfl
  have HR : Hid ((C ≠ 0 → R = 0) ∧ (C = 0 → R = (bsK s t (2 * most.toNat)).1 ∧ 0 ≤ most ∧ most ≤ 100 ∧ s.any outS = false ∧ t.any outS = false)) := by
    refine ⟨fun h0 => ?_, fun h0 => ⟨?_, ?_⟩⟩
    · rw [hR]; unfold shV; rw [if_neg (by rw [← hC]; exact h0)]
    · rw [hR]; unfold shV; rw [if_pos (by rw [← hC]; exact h0)]
    · obtain ⟨_, _, _, _, l3, l4, l5, l6⟩ := sgF_ok (hC.symm.trans h0); exact ⟨l5, l6, l3, l4⟩
  have H : Hid (RdI w (.slice a n c) s ∧ RdI w (.slice a2 m c2) t ∧ n = s.length ∧ m = t.length) := ⟨by rw [hnn]; exact h, by rw [hmm]; exact h', hnn, hmm⟩
  rw [← hnn] at hn ⊢
  rw [← hmm] at hm ⊢
  clear h h' hnn hmm hp hq hr hC hR
  obtain ⟨V, hV⟩ : ∃ V, V = w.alloc (.cells #[.int .i64 0, .int .i64 0] 28) := ⟨_, rfl⟩
  have HV : Hid (V.heap[w.heap.size]? = some (.cells #[.int .i64 0, .int .i64 0] 28) ∧ Below w.heap.size w V) := ⟨by rw [hV]; exact heap_alloc_new w _, by rw [hV]; (repeat' (first | (with_reducible exact Below.refl _ _) | (with_reducible assumption) | (with_reducible refine Below.setCell ?_ ?_ _) | (with_reducible refine Below.alloc ?_ ?_ _) | (with_reducible refine below_drewN ?_ _) | (with_reducible refine Below.drew ?_) | (with_reducible exact Nat.le_refl _) | omega | (simp; done) | (simp; omega)))⟩
  have q0 := cellOf HV.out.1 0 rfl
  have q1 := cellOf HV.out.1 1 rfl
  have f0 := frozOf HV.out.1 0
  have f1 := frozOf HV.out.1 1
  have ql := ltOf HV.out.1
  go_enter Try.func12, Try.ntmps12
  go_upto_region 1 with fail
  rw [← hV]
  clear hV
  by_cases h1 : ((n : Int) == 0) = true
  · have HZ : Hid (R = 0 ∧ C = 1) := by
      have e : C = 1 := by rw [HC.out, if_pos (Or.inl (by simp at h1; omega))]
      exact ⟨HR.out.1 (by rw [e]; decide), e⟩
    clear HC HR H HP HQ HI
    go_wp2
    try simp only [Exit.inBlock, Exit.then]
    refine bodyPost_ret (by simp [results, Try.results12, go_sem, q0, q1, ql]; try rfl) rfl ⟨by rw [HZ.out.1, HZ.out.2] <;> rfl, ?_⟩
    have hb := HV.out.2
    (repeat' (first | (with_reducible exact Below.refl _ _) | (with_reducible assumption) | (with_reducible refine Below.setCell ?_ ?_ _) | (with_reducible refine Below.alloc ?_ ?_ _) | (with_reducible refine below_drewN ?_ _) | (with_reducible refine Below.drew ?_) | (with_reducible exact Nat.le_refl _) | omega | (simp; done) | (simp; omega)))
  have h1' : ((n : Int) == 0) = false := by simpa using h1
  have h1n : n ≠ 0 := by simp at h1'; omega
  clear h1
  by_cases h2 : ((m : Int) == 0) = true
  · have HZ : Hid (R = 0 ∧ C = 1) := by
      have e : C = 1 := by rw [HC.out, if_pos (Or.inr (by simp at h2; omega))]
      exact ⟨HR.out.1 (by rw [e]; decide), e⟩
    clear HC HR H HP HQ HI
    go_wp2
    try simp only [Exit.inBlock, Exit.then]
    refine bodyPost_ret (by simp [results, Try.results12, go_sem, q0, q1, ql]; try rfl) rfl ⟨by rw [HZ.out.1, HZ.out.2] <;> rfl, ?_⟩
    have hb := HV.out.2
    (repeat' (first | (with_reducible exact Below.refl _ _) | (with_reducible assumption) | (with_reducible refine Below.setCell ?_ ?_ _) | (with_reducible refine Below.alloc ?_ ?_ _) | (with_reducible refine below_drewN ?_ _) | (with_reducible refine Below.drew ?_) | (with_reducible exact Nat.le_refl _) | omega | (simp; done) | (simp; omega)))
  have h2' : ((m : Int) == 0) = false := by simpa using h2
  have h2n : m ≠ 0 := by simp at h2'; omega
  clear h2
  by_cases h3 : (200 : Int) < (n : Int)
  · have HZ : Hid (R = 0 ∧ C = 2) := by
      have e : C = 2 := by rw [HC.out, if_neg (by omega), if_pos (Or.inl (by omega))]
      exact ⟨HR.out.1 (by rw [e]; decide), e⟩
    clear HC HR H HP HQ HI
    go_wp2
    try simp only [Exit.inBlock, Exit.then]
    refine bodyPost_ret (by simp [results, Try.results12, go_sem, q0, q1, ql]; try rfl) rfl ⟨by rw [HZ.out.1, HZ.out.2] <;> rfl, ?_⟩
    have hb := HV.out.2
    (repeat' (first | (with_reducible exact Below.refl _ _) | (with_reducible assumption) | (with_reducible refine Below.setCell ?_ ?_ _) | (with_reducible refine Below.alloc ?_ ?_ _) | (with_reducible refine below_drewN ?_ _) | (with_reducible refine Below.drew ?_) | (with_reducible exact Nat.le_refl _) | omega | (simp; done) | (simp; omega)))
  by_cases h4 : (200 : Int) < (m : Int)
  · have HZ : Hid (R = 0 ∧ C = 2) := by
      have e : C = 2 := by rw [HC.out, if_neg (by omega), if_pos (Or.inr (by omega))]
      exact ⟨HR.out.1 (by rw [e]; decide), e⟩
    clear HC HR H HP HQ HI
    go_wp2
    try simp only [Exit.inBlock, Exit.then]
    refine bodyPost_ret (by simp [results, Try.results12, go_sem, q0, q1, ql]; try rfl) rfl ⟨by rw [HZ.out.1, HZ.out.2] <;> rfl, ?_⟩
    have hb := HV.out.2
    (repeat' (first | (with_reducible exact Below.refl _ _) | (with_reducible assumption) | (with_reducible refine Below.setCell ?_ ?_ _) | (with_reducible refine Below.alloc ?_ ?_ _) | (with_reducible refine below_drewN ?_ _) | (with_reducible refine Below.drew ?_) | (with_reducible exact Nat.le_refl _) | omega | (simp; done) | (simp; omega)))
  have HC2 : Hid (C = if p ≠ 0 ∨ q ≠ 0 ∨ ¬ (r = true) then 3 else 0) := by unfold Hid; rw [HC.out, if_neg (by omega), if_neg (by omega)]
  clear HC
  go_wp2_with (fail)
  refine (HP.out _ HV.out.2).mono ?_
  rintro e w1 ⟨rfl, hw1⟩
  obtain rfl : V = w1 := hw1.symm
  by_cases hp0 : p = 0
  case neg =>
    have hA : (p != 0) = true := by simpa using hp0
    have HZ : Hid (R = 0 ∧ C = 3) := by
      have e : C = 3 := by rw [HC2.out, if_pos (Or.inl hp0)]
      exact ⟨HR.out.1 (by rw [e]; decide), e⟩
    clear hp0 HC2 HR H HP HQ HI
    go_wp2
    try simp only [Exit.inBlock, Exit.then]
    refine bodyPost_ret (by simp [results, Try.results12, go_sem, q0, q1, ql]; try rfl) rfl ⟨by rw [HZ.out.1, HZ.out.2] <;> rfl, ?_⟩
    have hb := HV.out.2
    (repeat' (first | (with_reducible exact Below.refl _ _) | (with_reducible assumption) | (with_reducible refine Below.setCell ?_ ?_ _) | (with_reducible refine Below.alloc ?_ ?_ _) | (with_reducible refine below_drewN ?_ _) | (with_reducible refine Below.drew ?_) | (with_reducible exact Nat.le_refl _) | omega | (simp; done) | (simp; omega)))
  have hA : (p != 0) = false := by rw [hp0]; rfl
  go_wp2_with (fail)
  refine (HQ.out _ HV.out.2).mono ?_
  rintro e w1 ⟨rfl, hw1⟩
  obtain rfl : V = w1 := hw1.symm
  by_cases hq0 : q = 0
  case neg =>
    have hA2 : (q != 0) = true := by simpa using hq0
    have HZ : Hid (R = 0 ∧ C = 3) := by
      have e : C = 3 := by rw [HC2.out, if_pos (Or.inr (Or.inl hq0))]
      exact ⟨HR.out.1 (by rw [e]; decide), e⟩
    clear hq0 hp0 HC2 HR H HP HQ HI
    go_wp2
    try simp only [Exit.inBlock, Exit.then]
    refine bodyPost_ret (by simp [results, Try.results12, go_sem, q0, q1, ql]; try rfl) rfl ⟨by rw [HZ.out.1, HZ.out.2] <;> rfl, ?_⟩
    have hb := HV.out.2
    (repeat' (first | (with_reducible exact Below.refl _ _) | (with_reducible assumption) | (with_reducible refine Below.setCell ?_ ?_ _) | (with_reducible refine Below.alloc ?_ ?_ _) | (with_reducible refine below_drewN ?_ _) | (with_reducible refine Below.drew ?_) | (with_reducible exact Nat.le_refl _) | omega | (simp; done) | (simp; omega)))
  have hA2 : (q != 0) = false := by rw [hq0]; rfl
  go_wp2_with (fail)
  refine (HI.out _).mono ?_
  rintro e w1 ⟨rfl, hw1⟩
  obtain rfl : V = w1 := hw1.symm
  cases r with
  | false =>
    have HZ : Hid (R = 0 ∧ C = 3) := by
      have e : C = 3 := by rw [HC2.out, if_pos (Or.inr (Or.inr (by decide)))]
      exact ⟨HR.out.1 (by rw [e]; decide), e⟩
    clear hq0 hp0 HC2 HR H HP HQ HI
    go_wp2
    try simp only [Exit.inBlock, Exit.then]
    refine bodyPost_ret (by simp [results, Try.results12, go_sem, q0, q1, ql]; try rfl) rfl ⟨by rw [HZ.out.1, HZ.out.2] <;> rfl, ?_⟩
    have hb := HV.out.2
    (repeat' (first | (with_reducible exact Below.refl _ _) | (with_reducible assumption) | (with_reducible refine Below.setCell ?_ ?_ _) | (with_reducible refine Below.alloc ?_ ?_ _) | (with_reducible refine below_drewN ?_ _) | (with_reducible refine Below.drew ?_) | (with_reducible exact Nat.le_refl _) | omega | (simp; done) | (simp; omega)))
  | true =>
  have hC0 : C = 0 := by rw [HC2.out, if_neg (by simp [hp0, hq0])]
  obtain ⟨hRe, hm0, hm1, hsa, hta⟩ := HR.out.2 hC0
  obtain ⟨M, hM⟩ : ∃ M : Nat, most = (M : Int) := ⟨most.toNat, by omega⟩
  have HR2 : Hid (R = (bsK s t (2 * M)).1 ∧ C = 0 ∧ s.any outS = false ∧ t.any outS = false) := ⟨by rw [hRe, hM, Int.toNat_natCast], hC0, hsa, hta⟩
  clear HR hRe hC0 hsa hta hp0 hq0 HC2 HP HQ HI hm0
  subst hM
  have hw9 : IntKind.i64.wrap (2 * (M : Int)) = 2 * (M : Int) := by rw [IntKind.wrap_i64]; omega
  go_wp2
  go_loopw [7, 8, 9] (fun b g i wr => ∃ (k : Nat) (x z : Int), k ≤ 2 * M + 1 ∧ i = .int .i64 k ∧ b = .int .i64 x ∧ g = .int .i64 z ∧ Hid (((k = 0 → x = 0) ∧ (k ≠ 0 → bsK s t (k - 1) = (x, z))) ∧ wr.heap[w.heap.size]? = some (.cells #[.int .i64 0, .int .i64 0] 28) ∧ Below w.heap.size w wr)) (fun _ _ i _ => 2 * M + 1 - (intOf i).toNat)
  case atStart => exact ⟨0, 0, 0, by omega, rfl, rfl, rfl, ⟨fun _ => rfl, fun h => absurd rfl h⟩, HV.out⟩
  case round =>
    clear HV q0 q1 f0 f1 ql
    obtain ⟨k, x, z, hk, rfl, rfl, rfl, hRR⟩ := hrel
    have HV : Hid (wr.heap[w.heap.size]? = some (.cells #[.int .i64 0, .int .i64 0] 28) ∧ Below w.heap.size w wr) := hRR.out.2
    by_cases hlt : k ≤ 2 * M
    · have b1 : (k : Int) ≤ 2 * (M : Int) := by omega
      obtain ⟨d, hd⟩ : ∃ d : Nat, d = (k + 1) / 2 := ⟨_, rfl⟩
      have hdb : d ≤ 101 := by omega
      have hw1 : IntKind.i64.wrap ((k : Int) + 1) = (k : Int) + 1 := by rw [IntKind.wrap_i64]; omega
      have hw2 : Int.tdiv ((k : Int) + 1) 2 = (d : Int) := by rw [hd, Int.tdiv_eq_ediv_of_nonneg (by omega)]; omega
      have hw3 : IntKind.i64.wrap (d : Int) = (d : Int) := by rw [IntKind.wrap_i64]; omega
      have hw4 : IntKind.i64.wrap (-(d : Int)) = -(d : Int) := by rw [IntKind.wrap_i64]; omega
      obtain ⟨sh, hsh⟩ : ∃ q : Int, q = tK k := ⟨_, rfl⟩
      have hsb : -1000 ≤ sh ∧ sh ≤ 1000 := by rw [hsh]; unfold tK; split <;> omega
      have HSH : Hid (sh = tK k) := hsh
      have HRK : Hid ((k = 0 → x = 0) ∧ (k ≠ 0 → bsK s t (k - 1) = (x, z))) := hRR.out.1
      have hmod : Int.tmod (k : Int) 2 = ((k % 2 : Nat) : Int) := by rw [Int.tmod_eq_emod_of_nonneg (by omega)]; omega
      have HD : Hid (d = (k + 1) / 2) := hd
      clear hsh hRR hd
      rcases Nat.mod_two_eq_zero_or_one k with hev | hod
      · have hdS : (d : Int) = sh := by rw [HSH.out, HD.out]; unfold tK; rw [if_neg (by omega)]
        rw [hdS] at hw2 hw3
        have hm2 : ((k : Int) % 2 == 1) = false := by simp; omega
        clear hmod hev hdS hw4 HD hdb
        go_wp2
        go_loopw [11, 12] (fun q i wr => ∃ (j : Nat) (zz : Int), j ≤ n ∧ i = .int .i64 j ∧ q = .int .i64 zz ∧ -200000000 ≤ zz ∧ zz ≤ 200000000 ∧ Hid (zz = scK s t sh j ∧ wr.heap[w.heap.size]? = some (.cells #[.int .i64 0, .int .i64 0] 28) ∧ Below w.heap.size w wr)) (fun _ i _ => n - (intOf i).toNat)
        case atStart => exact ⟨0, 0, Nat.zero_le _, rfl, rfl, by omega, by omega, rfl, HV.out⟩
        case round =>
          clear HV
          obtain ⟨j, zz, hj, rfl, rfl, hz1, hz2, hRJ⟩ := hrel
          have HV : Hid (wr.heap[w.heap.size]? = some (.cells #[.int .i64 0, .int .i64 0] 28) ∧ Below w.heap.size w wr) := hRJ.out.2
          by_cases hjn : j < n
          · obtain ⟨g, o, rfl, hg, c0⟩ := rd_at (H.out.1.below HV.out.2) hjn
            have hx := inL HR2.out.2.2.1 j
            obtain ⟨xv, hxe⟩ : ∃ x, x = s.getD j 0 := ⟨_, rfl⟩
            rw [← hxe] at c0 hx
            obtain ⟨at', hat⟩ : ∃ y, y = (j : Int) + sh := ⟨_, rfl⟩
            have e0 : (0 : Int) ≤ (j : Int) := by omega
            have e1 : (j : Int) < (n : Int) := by omega
            have hw5 : IntKind.i64.wrap ((j : Int) + sh) = at' := by rw [hat, IntKind.wrap_i64]; omega
            have HN : Hid (scK s t sh (j + 1) = zz + tmK s t sh j) := by unfold Hid; rw [scK, hRJ.out.1]
            have HBD : Hid (-(1000000 * ((j + 1 : Nat) : Int)) ≤ scK s t sh (j + 1) ∧ scK s t sh (j + 1) ≤ 1000000 * ((j + 1 : Nat) : Int)) := scK_bd HR2.out.2.2.1 HR2.out.2.2.2 sh (j + 1)
            have HT : Hid (tmK s t sh j = if 0 ≤ at' ∧ at' < (m : Int) then xv * t.getD at'.toNat 0 else 0) := by
              unfold Hid tmK; rw [← hat, ← hxe, ← H.out.2.2.2]
            clear hxe hat hRJ
            by_cases hp1 : 0 ≤ at'
            · by_cases hp2 : at' < (m : Int)
              · obtain ⟨jj, hjj⟩ : ∃ j : Nat, at' = (j : Int) := ⟨at'.toNat, by omega⟩
                have hjm : jj < m := by omega
                obtain ⟨g2, o2, rfl, hg2, d0⟩ := rd_at (H.out.2.1.below HV.out.2) hjm
                have hy := inL HR2.out.2.2.2 jj
                have HT2 : Hid (tmK s t sh j = xv * t.getD jj 0) := by unfold Hid; rw [HT.out, if_pos ⟨hp1, hp2⟩, hjj, Int.toNat_natCast]
                obtain ⟨y, hye⟩ : ∃ y, y = t.getD jj 0 := ⟨_, rfl⟩
                rw [← hye] at d0 hy HT2
                obtain ⟨xy, hxy⟩ : ∃ q, q = xv * y := ⟨_, rfl⟩
                have hxb := mul_in (A := 1000) (B := 1000) hx.1 hx.2 hy.1 hy.2
                rw [← hxy] at hxb HT2
                have hw6 : IntKind.i64.wrap (xv * y) = xy := by rw [← hxy, IntKind.wrap_i64]; omega
                have hw7 : IntKind.i64.wrap (zz + xy) = zz + xy := by rw [IntKind.wrap_i64]; omega
                have HF : Hid (zz + xy = scK s t sh (j + 1)) := by unfold Hid; rw [HN.out, HT2.out]
                have hbz : -200000000 ≤ zz + xy ∧ zz + xy ≤ 200000000 := by have h9 := HBD.out; rw [← HF.out] at h9; omega
                clear hye hxy HN HT HT2 HBD hx hy hxb
                subst hjj
                go_wp2_with (fail)
                (refine wp_region_und (by kernel_rfl) (by kernel_rfl) (fun hund => ?_); (repeat (go_big_quiet_step (fail))); with_reducible refine wpQuiet_nil ?_; clear hund; intro W1 hb1; obtain ⟨hc1, hf1⟩ := undcell hb1)
                have HV2 : Hid (W1.heap[w.heap.size]? = some (.cells #[.int .i64 0, .int .i64 0] 28) ∧ Below w.heap.size w W1) := ⟨(hb1.block _ (ltOf HV.out.1)).trans HV.out.1, HV.out.2.trans (hb1.mono HV.out.2.size)⟩
                clear hb1 hc1 hf1 HV
                go_wp2
                go_roundw
                case rel => exact ⟨j + 1, zz + xy, by omega, by go_num, by first | rfl | trivial, by omega, by omega, HF.out, HV2.out⟩
                case measure => simp [intOf]; omega
              · have HF : Hid (zz = scK s t sh (j + 1)) := by unfold Hid; rw [HN.out, HT.out, if_neg (fun h => hp2 h.2)]; omega
                have hp3 : decide (at' < (m : Int)) = false := decide_eq_false hp2
                clear HN HT
                go_wp2
                go_roundw
                case rel => exact ⟨j + 1, zz, by omega, by go_num, by first | rfl | trivial, by omega, by omega, HF.out, HV.out⟩
                case measure => simp [intOf]; omega
            · have HF : Hid (zz = scK s t sh (j + 1)) := by unfold Hid; rw [HN.out, HT.out, if_neg (fun h => hp1 h.1)]; omega
              have hp3 : decide (0 ≤ at') = false := decide_eq_false hp1
              clear HN HT
              go_wp2
              go_roundw
              case rel => exact ⟨j + 1, zz, by omega, by go_num, by first | rfl | trivial, by omega, by omega, HF.out, HV.out⟩
              case measure => simp [intOf]; omega
          · have HZ : Hid (zz = scA s t sh) := by unfold Hid; rw [hRJ.out.1]; unfold scA; rw [← H.out.2.2.1, show j = n by omega]
            clear hRJ
            obtain ⟨z2, hz2e⟩ : ∃ q : Int, q = scA s t sh := ⟨_, rfl⟩
            have HN : Hid (bsK s t (k + 1 - 1) = if k = 0 then (sh, zz) else if z < zz then (sh, zz) else (x, z)) := by
              unfold Hid
              rw [show k + 1 - 1 = k by omega]
              by_cases hk0 : k = 0
              · rw [if_pos hk0, HZ.out, HSH.out, hk0]; rfl
              · rw [if_neg hk0, show k = (k - 1) + 1 by omega, bsK, show k - 1 + 1 = k by omega, HRK.out.2 hk0, ← HSH.out, ← HZ.out]
            clear HZ hz2e
            by_cases hk0 : k = 0
            · have HN2 : Hid (bsK s t (k + 1 - 1) = (sh, zz)) := by have e := HN.out; rw [if_pos hk0] at e; exact e
              have hk0b : ((k : Int) == 0) = true := by rw [hk0]; rfl
              clear HN hk0
              go_wp2
              go_roundw
              case rel => exact ⟨k + 1, sh, zz, by omega, by go_num, by first | rfl | trivial, by first | rfl | trivial, ⟨fun h => absurd h (by omega), fun _ => HN2.out⟩, HV.out⟩
              case measure => simp [intOf]; omega
            · have hk0b : ((k : Int) == 0) = false := by simp; omega
              by_cases hzz : z < zz
              · have HN2 : Hid (bsK s t (k + 1 - 1) = (sh, zz)) := by have e := HN.out; rw [if_neg hk0, if_pos hzz] at e; exact e
                clear HN hk0
                go_wp2
                go_roundw
                case rel => exact ⟨k + 1, sh, zz, by omega, by go_num, by first | rfl | trivial, by first | rfl | trivial, ⟨fun h => absurd h (by omega), fun _ => HN2.out⟩, HV.out⟩
                case measure => simp [intOf]; omega
              · have HN2 : Hid (bsK s t (k + 1 - 1) = (x, z)) := by have e := HN.out; rw [if_neg hk0, if_neg hzz] at e; exact e
                have hzzb : decide (z < zz) = false := decide_eq_false hzz
                clear HN hk0
                go_wp2
                go_roundw
                case rel => exact ⟨k + 1, x, z, by omega, by go_num, by first | rfl | trivial, by first | rfl | trivial, ⟨fun h => absurd h (by omega), fun _ => HN2.out⟩, HV.out⟩
                case measure => simp [intOf]; omega
      · have hdS : -(d : Int) = sh := by rw [HSH.out, HD.out]; unfold tK; rw [if_pos (by omega)]
        replace hw4 := hw4.trans hdS
        have hm2 : ((k : Int) % 2 == 1) = true := by simp; omega
        clear hmod hod hdS HD hdb
        go_wp2
        go_loopw [11, 12] (fun q i wr => ∃ (j : Nat) (zz : Int), j ≤ n ∧ i = .int .i64 j ∧ q = .int .i64 zz ∧ -200000000 ≤ zz ∧ zz ≤ 200000000 ∧ Hid (zz = scK s t sh j ∧ wr.heap[w.heap.size]? = some (.cells #[.int .i64 0, .int .i64 0] 28) ∧ Below w.heap.size w wr)) (fun _ i _ => n - (intOf i).toNat)
        case atStart => exact ⟨0, 0, Nat.zero_le _, rfl, rfl, by omega, by omega, rfl, HV.out⟩
        case round =>
          clear HV
          obtain ⟨j, zz, hj, rfl, rfl, hz1, hz2, hRJ⟩ := hrel
          have HV : Hid (wr.heap[w.heap.size]? = some (.cells #[.int .i64 0, .int .i64 0] 28) ∧ Below w.heap.size w wr) := hRJ.out.2
          by_cases hjn : j < n
          · obtain ⟨g, o, rfl, hg, c0⟩ := rd_at (H.out.1.below HV.out.2) hjn
            have hx := inL HR2.out.2.2.1 j
            obtain ⟨xv, hxe⟩ : ∃ x, x = s.getD j 0 := ⟨_, rfl⟩
            rw [← hxe] at c0 hx
            obtain ⟨at', hat⟩ : ∃ y, y = (j : Int) + sh := ⟨_, rfl⟩
            have e0 : (0 : Int) ≤ (j : Int) := by omega
            have e1 : (j : Int) < (n : Int) := by omega
            have hw5 : IntKind.i64.wrap ((j : Int) + sh) = at' := by rw [hat, IntKind.wrap_i64]; omega
            have HN : Hid (scK s t sh (j + 1) = zz + tmK s t sh j) := by unfold Hid; rw [scK, hRJ.out.1]
            have HBD : Hid (-(1000000 * ((j + 1 : Nat) : Int)) ≤ scK s t sh (j + 1) ∧ scK s t sh (j + 1) ≤ 1000000 * ((j + 1 : Nat) : Int)) := scK_bd HR2.out.2.2.1 HR2.out.2.2.2 sh (j + 1)
            have HT : Hid (tmK s t sh j = if 0 ≤ at' ∧ at' < (m : Int) then xv * t.getD at'.toNat 0 else 0) := by
              unfold Hid tmK; rw [← hat, ← hxe, ← H.out.2.2.2]
            clear hxe hat hRJ
            by_cases hp1 : 0 ≤ at'
            · by_cases hp2 : at' < (m : Int)
              · obtain ⟨jj, hjj⟩ : ∃ j : Nat, at' = (j : Int) := ⟨at'.toNat, by omega⟩
                have hjm : jj < m := by omega
                obtain ⟨g2, o2, rfl, hg2, d0⟩ := rd_at (H.out.2.1.below HV.out.2) hjm
                have hy := inL HR2.out.2.2.2 jj
                have HT2 : Hid (tmK s t sh j = xv * t.getD jj 0) := by unfold Hid; rw [HT.out, if_pos ⟨hp1, hp2⟩, hjj, Int.toNat_natCast]
                obtain ⟨y, hye⟩ : ∃ y, y = t.getD jj 0 := ⟨_, rfl⟩
                rw [← hye] at d0 hy HT2
                obtain ⟨xy, hxy⟩ : ∃ q, q = xv * y := ⟨_, rfl⟩
                have hxb := mul_in (A := 1000) (B := 1000) hx.1 hx.2 hy.1 hy.2
                rw [← hxy] at hxb HT2
                have hw6 : IntKind.i64.wrap (xv * y) = xy := by rw [← hxy, IntKind.wrap_i64]; omega
                have hw7 : IntKind.i64.wrap (zz + xy) = zz + xy := by rw [IntKind.wrap_i64]; omega
                have HF : Hid (zz + xy = scK s t sh (j + 1)) := by unfold Hid; rw [HN.out, HT2.out]
                have hbz : -200000000 ≤ zz + xy ∧ zz + xy ≤ 200000000 := by have h9 := HBD.out; rw [← HF.out] at h9; omega
                clear hye hxy HN HT HT2 HBD hx hy hxb
                subst hjj
                go_wp2_with (fail)
                (refine wp_region_und (by kernel_rfl) (by kernel_rfl) (fun hund => ?_); (repeat (go_big_quiet_step (fail))); with_reducible refine wpQuiet_nil ?_; clear hund; intro W1 hb1; obtain ⟨hc1, hf1⟩ := undcell hb1)
                have HV2 : Hid (W1.heap[w.heap.size]? = some (.cells #[.int .i64 0, .int .i64 0] 28) ∧ Below w.heap.size w W1) := ⟨(hb1.block _ (ltOf HV.out.1)).trans HV.out.1, HV.out.2.trans (hb1.mono HV.out.2.size)⟩
                clear hb1 hc1 hf1 HV
                go_wp2
                go_roundw
                case rel => exact ⟨j + 1, zz + xy, by omega, by go_num, by first | rfl | trivial, by omega, by omega, HF.out, HV2.out⟩
                case measure => simp [intOf]; omega
              · have HF : Hid (zz = scK s t sh (j + 1)) := by unfold Hid; rw [HN.out, HT.out, if_neg (fun h => hp2 h.2)]; omega
                have hp3 : decide (at' < (m : Int)) = false := decide_eq_false hp2
                clear HN HT
                go_wp2
                go_roundw
                case rel => exact ⟨j + 1, zz, by omega, by go_num, by first | rfl | trivial, by omega, by omega, HF.out, HV.out⟩
                case measure => simp [intOf]; omega
            · have HF : Hid (zz = scK s t sh (j + 1)) := by unfold Hid; rw [HN.out, HT.out, if_neg (fun h => hp1 h.1)]; omega
              have hp3 : decide (0 ≤ at') = false := decide_eq_false hp1
              clear HN HT
              go_wp2
              go_roundw
              case rel => exact ⟨j + 1, zz, by omega, by go_num, by first | rfl | trivial, by omega, by omega, HF.out, HV.out⟩
              case measure => simp [intOf]; omega
          · have HZ : Hid (zz = scA s t sh) := by unfold Hid; rw [hRJ.out.1]; unfold scA; rw [← H.out.2.2.1, show j = n by omega]
            clear hRJ
            obtain ⟨z2, hz2e⟩ : ∃ q : Int, q = scA s t sh := ⟨_, rfl⟩
            have HN : Hid (bsK s t (k + 1 - 1) = if k = 0 then (sh, zz) else if z < zz then (sh, zz) else (x, z)) := by
              unfold Hid
              rw [show k + 1 - 1 = k by omega]
              by_cases hk0 : k = 0
              · rw [if_pos hk0, HZ.out, HSH.out, hk0]; rfl
              · rw [if_neg hk0, show k = (k - 1) + 1 by omega, bsK, show k - 1 + 1 = k by omega, HRK.out.2 hk0, ← HSH.out, ← HZ.out]
            clear HZ hz2e
            by_cases hk0 : k = 0
            · have HN2 : Hid (bsK s t (k + 1 - 1) = (sh, zz)) := by have e := HN.out; rw [if_pos hk0] at e; exact e
              have hk0b : ((k : Int) == 0) = true := by rw [hk0]; rfl
              clear HN hk0
              go_wp2
              go_roundw
              case rel => exact ⟨k + 1, sh, zz, by omega, by go_num, by first | rfl | trivial, by first | rfl | trivial, ⟨fun h => absurd h (by omega), fun _ => HN2.out⟩, HV.out⟩
              case measure => simp [intOf]; omega
            · have hk0b : ((k : Int) == 0) = false := by simp; omega
              by_cases hzz : z < zz
              · have HN2 : Hid (bsK s t (k + 1 - 1) = (sh, zz)) := by have e := HN.out; rw [if_neg hk0, if_pos hzz] at e; exact e
                clear HN hk0
                go_wp2
                go_roundw
                case rel => exact ⟨k + 1, sh, zz, by omega, by go_num, by first | rfl | trivial, by first | rfl | trivial, ⟨fun h => absurd h (by omega), fun _ => HN2.out⟩, HV.out⟩
                case measure => simp [intOf]; omega
              · have HN2 : Hid (bsK s t (k + 1 - 1) = (x, z)) := by have e := HN.out; rw [if_neg hk0, if_neg hzz] at e; exact e
                have hzzb : decide (z < zz) = false := decide_eq_false hzz
                clear HN hk0
                go_wp2
                go_roundw
                case rel => exact ⟨k + 1, x, z, by omega, by go_num, by first | rfl | trivial, by first | rfl | trivial, ⟨fun h => absurd h (by omega), fun _ => HN2.out⟩, HV.out⟩
                case measure => simp [intOf]; omega
    · have HZ : Hid (R = x) := by
        have e := hRR.out.1.2 (by omega)
        rw [show k = 2 * M + 1 by omega, show 2 * M + 1 - 1 = 2 * M by omega] at e
        unfold Hid; rw [HR2.out.1, e]
      clear hRR
      have hltb : ¬ (k : Int) ≤ 2 * (M : Int) := by omega
      have q0 := cellOf HV.out.1 0 rfl
      have q1 := cellOf HV.out.1 1 rfl
      have f0 := frozOf HV.out.1 0
      have f1 := frozOf HV.out.1 1
      have ql := ltOf HV.out.1
      go_wp2
      try simp only [Exit.inBlock, Exit.then]
      refine bodyPost_ret (by simp [results, Try.results12, go_sem, q0, q1, ql]; try rfl) rfl ⟨by rw [HZ.out, HR2.out.2.1] <;> rfl, ?_⟩
      have hb := HV.out.2
      (repeat' (first | (with_reducible exact Below.refl _ _) | (with_reducible assumption) | (with_reducible refine Below.setCell ?_ ?_ _) | (with_reducible refine Below.alloc ?_ ?_ _) | (with_reducible refine below_drewN ?_ _) | (with_reducible refine Below.drew ?_) | (with_reducible exact Nat.le_refl _) | omega | (simp; done) | (simp; omega)))

end Go.Proofs.Ytdidmjgilnhncaa
