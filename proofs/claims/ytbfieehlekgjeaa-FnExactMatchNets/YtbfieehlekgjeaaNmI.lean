/- Proved here: slices.Index, Contains and Equal at numbers; the program's isNaming, renamedPins and asMany. -/
import Derived.Test.YtbfieehlekgjeaaNmM
import Derived.Test.YtbfieehlekgjeaaSPut
import Derived.BigQuiet
namespace Go.Proofs.Ytbfieehlekgjeaa
open Go.RowKit
set_option linter.unusedVariables false
set_option linter.unusedSimpArgs false

theorem getD_at {s : List Int} {j : Nat} (h : j < s.length) : s.getD j 0 = s[j] := by
  rw [List.getD_eq_getElem?_getD, List.getElem?_eq_getElem h]; rfl
theorem not_mem_get {s : List Int} {x : Int} (h : ∀ k, k < s.length → s.getD k 0 ≠ x) : x ∉ s := by
  intro hx
  obtain ⟨k, hk, e⟩ := List.getElem_of_mem hx
  exact h k hk (by rw [getD_at hk]; exact e)
theorem mem_get {s : List Int} {x : Int} {k : Nat} (hk : k < s.length) (h : s.getD k 0 = x) : x ∈ s := by
  rw [← h, getD_at hk]; exact List.getElem_mem hk

set_option maxHeartbeats 1600000 in
theorem sl_index (x : Int) {w : World} {v : Value} {s : List Int} (hn : s.length ≤ 1048576) (h : RdI w v s) :
    Calls Try.prog 87 #[v, .int .i64 x] w fun e w' => (∃ r : Int, e = .returned (.int .i64 r) ∧ (0 ≤ r ↔ x ∈ s)) ∧ Below w.heap.size w w' := by
  obtain ⟨a, c, rfl⟩ := h.form
  obtain ⟨n, hnn⟩ : ∃ n, n = s.length := ⟨_, rfl⟩
  rw [← hnn] at hn h ⊢
  have H : Hid (RdI w (.slice a n c) s ∧ n = s.length) := ⟨h, hnn⟩
  clear h hnn
  go_enter Try.func87, Try.ntmps87
  go_wp2
  go_loopw [8] (fun i wr => ∃ j : Nat, j ≤ n ∧ i = .int .i64 j ∧ Hid (Below w.heap.size w wr ∧ ∀ k, k < j → s.getD k 0 ≠ x)) (fun i _ => n - (intOf i).toNat)
  case atStart => exact ⟨0, Nat.zero_le _, rfl, Below.refl _ _, fun k hk => by omega⟩
  case round =>
    obtain ⟨j, hjn, rfl, hR⟩ := hrel
    by_cases hlt : j < n
    · have hjl : j < s.length := by rw [← H.out.2]; exact hlt
      obtain ⟨g, o, c2, he, hg, hj⟩ := (H.out.1.below hR.out.1).ri (by rw [← H.out.2]; omega)
      simp only [Value.slice.injEq] at he
      obtain ⟨rfl, hx1, hx2⟩ := he
      clear hx1 hx2
      have c0 := hj j hjl
      obtain ⟨y, hy⟩ : ∃ y, y = s.getD j 0 := ⟨_, rfl⟩
      rw [← hy] at c0
      have HX : Hid (y = s.getD j 0 ∧ j < s.length) := ⟨hy, hjl⟩
      have HR : Hid _ := hR.out
      clear hy hj hjl hR
      have b0 : (0 : Int) ≤ (j : Int) := by omega
      have b1 : (j : Int) < (n : Int) := by omega
      by_cases hxy : x = y
      · have HM : Hid (x ∈ s) := mem_get HX.out.2 (by rw [← HX.out.1]; exact hxy.symm)
        go_wp2
        go_returns
        exact ⟨⟨_, rfl, ⟨fun _ => HM.out, fun _ => by omega⟩⟩, HR.out.1⟩
      · have HP : Hid (∀ k, k < j + 1 → s.getD k 0 ≠ x) := fun k hk => by
          rcases (by omega : k < j ∨ k = j) with e | rfl
          · exact HR.out.2 k e
          · rw [← HX.out.1]; exact fun e => hxy e.symm
        go_wp2
        go_roundw
        case rel => exact ⟨j + 1, by omega, by go_num, HR.out.1, HP.out⟩
        case measure => simp [intOf]; omega
    · have HM : Hid (x ∉ s) := not_mem_get (fun k hk => hR.out.2 k (by rw [← H.out.2] at hk; omega))
      have HB : Hid (Below w.heap.size w wr) := hR.out.1
      clear hR
      go_wp2
      go_returns
      exact ⟨⟨_, rfl, ⟨fun h => by omega, fun h => absurd h HM.out⟩⟩, HB.out⟩

set_option maxHeartbeats 1600000 in
theorem sl_contains (x : Int) {w : World} {v : Value} {s : List Int} (hn : s.length ≤ 1048576) (h : RdI w v s) :
    Calls Try.prog 74 #[v, .int .i64 x] w fun e w' => e = .returned (.bool (decide (x ∈ s))) ∧ Below w.heap.size w w' := by
  obtain ⟨a, c, rfl⟩ := h.form
  have H : Hid (RdI w (.slice a s.length c) s) := h
  obtain ⟨n, hnn⟩ : ∃ n, n = s.length := ⟨_, rfl⟩
  obtain ⟨D, hD⟩ : ∃ D, D = decide (x ∈ s) := ⟨_, rfl⟩
  have HD : Hid (D = decide (x ∈ s) ∧ s.length ≤ 1048576) := ⟨hD, hn⟩
  rw [← hnn] at H ⊢
  rw [← hD]
  clear h hnn hD hn
  go_enter Try.func74, Try.ntmps74
  go_wp2_with (fail)
  refine (sl_index x HD.out.2 H.out).mono ?_
  rintro e w1 ⟨⟨r, rfl, hr⟩, hb1⟩
  have HB : Hid (Below w.heap.size w w1) := hb1
  have HE : Hid (decide (r ≥ 0) = D) := by
    unfold Hid
    rw [HD.out.1]
    exact decide_eq_decide.2 hr
  clear hb1 hr
  go_wp2
  go_returns
  exact ⟨by rw [← HE.out]; rfl, HB.out⟩

set_option maxHeartbeats 1600000 in
theorem sl_equal {w : World} {va vb : Value} {p q : List Int} (hp : p.length ≤ 1048576) (hq : q.length ≤ 1048576) (ha : RdI w va p) (hb : RdI w vb q) :
    Calls Try.prog 88 #[va, vb] w fun e w' => e = .returned (.bool (decide (p = q))) ∧ Below w.heap.size w w' := by
  obtain ⟨a1, c1', rfl⟩ := ha.form
  obtain ⟨a2, c2', rfl⟩ := hb.form
  obtain ⟨n, hnn⟩ : ∃ n, n = p.length := ⟨_, rfl⟩
  obtain ⟨m, hmm⟩ : ∃ m, m = q.length := ⟨_, rfl⟩
  obtain ⟨D, hD⟩ : ∃ D, D = decide (p = q) := ⟨_, rfl⟩
  rw [← hnn] at hp ha ⊢
  rw [← hmm] at hq hb ⊢
  rw [← hD]
  have H : Hid (RdI w (.slice a1 n c1') p ∧ RdI w (.slice a2 m c2') q ∧ n = p.length ∧ m = q.length ∧ D = decide (p = q)) := ⟨ha, hb, hnn, hmm, hD⟩
  clear ha hb hnn hmm hD
  by_cases hnm : n = m
  case neg =>
    have HE : Hid (D = false) := by
      unfold Hid; rw [H.out.2.2.2.2]
      exact decide_eq_false (fun e => hnm (by rw [H.out.2.2.1, H.out.2.2.2.1, e]))
    have hi : ¬ (n : Int) = (m : Int) := by omega
    go_enter Try.func88, Try.ntmps88
    go_wp2
    go_returns
    exact ⟨by rw [HE.out]; rfl, Below.refl _ _⟩
  subst hnm
  go_enter Try.func88, Try.ntmps88
  go_wp2
  go_loopw [13] (fun i wr => ∃ j : Nat, j ≤ n ∧ i = .int .i64 j ∧ Hid (Below w.heap.size w wr ∧ ∀ k, k < j → p.getD k 0 = q.getD k 0)) (fun i _ => n - (intOf i).toNat)
  case atStart => exact ⟨0, Nat.zero_le _, rfl, Below.refl _ _, fun k hk => by omega⟩
  case round =>
    obtain ⟨j, hjn, rfl, hR⟩ := hrel
    by_cases hlt : j < n
    · have hjp : j < p.length := by rw [← H.out.2.2.1]; exact hlt
      have hjq : j < q.length := by rw [← H.out.2.2.2.1]; exact hlt
      obtain ⟨g, o, d1, he, hg, hj⟩ := (H.out.1.below hR.out.1).ri (by omega)
      simp only [Value.slice.injEq] at he
      obtain ⟨rfl, hx1, hx2⟩ := he
      obtain ⟨g', o', d2, he', hg', hj'⟩ := (H.out.2.1.below hR.out.1).ri (by omega)
      simp only [Value.slice.injEq] at he'
      obtain ⟨rfl, hx3, hx4⟩ := he'
      clear hx1 hx2 hx3 hx4
      have c0 := hj j hjp
      have e0 := hj' j hjq
      obtain ⟨x, hx⟩ : ∃ x, x = p.getD j 0 := ⟨_, rfl⟩
      obtain ⟨y, hy⟩ : ∃ y, y = q.getD j 0 := ⟨_, rfl⟩
      rw [← hx] at c0
      rw [← hy] at e0
      have HX : Hid (x = p.getD j 0 ∧ y = q.getD j 0) := ⟨hx, hy⟩
      have HR : Hid _ := hR.out
      clear hx hy hj hj' hR
      have b0 : (0 : Int) ≤ (j : Int) := by omega
      have b1 : (j : Int) < (n : Int) := by omega
      by_cases hxy : x = y
      · subst hxy
        have HP : Hid (∀ k, k < j + 1 → p.getD k 0 = q.getD k 0) := fun k hk => by
          rcases (by omega : k < j ∨ k = j) with e | rfl
          · exact HR.out.2 k e
          · rw [← HX.out.1, ← HX.out.2]
        go_wp2
        go_quiet (fail)
        go_wp2
        go_roundw
        case rel => exact ⟨j + 1, by omega, by go_num, below_drewN HR.out.1 _, HP.out⟩
        case measure => simp [intOf]; omega
      · have HE : Hid (D = false) := by
          unfold Hid; rw [H.out.2.2.2.2]
          exact decide_eq_false (fun e => hxy (by rw [HX.out.1, HX.out.2, e]))
        go_wp2
        go_quiet (fail)
        go_wp2
        go_returns
        exact ⟨by rw [HE.out]; rfl, below_drewN HR.out.1 _⟩
    · have HE : Hid (D = true) := by
        unfold Hid; rw [H.out.2.2.2.2]
        refine decide_eq_true (List.ext_getElem (by rw [← H.out.2.2.1, ← H.out.2.2.2.1]) fun k h1 h2 => ?_)
        have := hR.out.2 k (by rw [← H.out.2.2.1] at h1; omega)
        rw [getD_at h1, getD_at h2] at this
        exact this
      have HB : Hid (Below w.heap.size w wr) := hR.out.1
      clear hR
      go_wp2
      go_returns
      exact ⟨by rw [HE.out]; rfl, HB.out⟩

set_option maxHeartbeats 1600000 in
theorem impl_naming (N : Int) {w : World} {v : Value} {s : List Int} (hn : s.length ≤ 1048576) (h : RdI w v s) :
    Calls Try.prog 50 #[v, .int .i64 N] w fun e w' => e = .returned (.bool (nmB s N)) ∧ Below w.heap.size w w' := by
  obtain ⟨a, c, rfl⟩ := h.form
  obtain ⟨n, hnn⟩ : ∃ n, n = s.length := ⟨_, rfl⟩
  obtain ⟨D, hD⟩ : ∃ D, D = nmB s N := ⟨_, rfl⟩
  rw [← hnn] at hn h ⊢
  rw [← hD]
  have H : Hid (RdI w (.slice a n c) s ∧ n = s.length ∧ D = nmB s N) := ⟨h, hnn, hD⟩
  clear h hnn hD
  by_cases hnN : (n : Int) = N
  case neg =>
    have HE : Hid (D = false) := by
      unfold Hid; rw [H.out.2.2]
      refine Bool.eq_false_iff.2 fun e => hnN ?_
      rw [H.out.2.1]; exact (nmB_iff.1 e).1
    go_enter Try.func50, Try.ntmps50
    go_wp2
    go_returns
    exact ⟨by rw [HE.out]; rfl, Below.refl _ _⟩
  subst hnN
  go_enter Try.func50, Try.ntmps50
  go_wp2
  go_loopw [11] (fun i wr => ∃ j : Nat, j ≤ n ∧ i = .int .i64 j ∧ Hid (Below w.heap.size w wr ∧ ∀ k : Nat, k < j → (k : Int) ∈ s)) (fun i _ => n - (intOf i).toNat)
  case atStart => exact ⟨0, Nat.zero_le _, rfl, Below.refl _ _, fun k hk => by omega⟩
  case round =>
    obtain ⟨j, hjn, rfl, hR⟩ := hrel
    by_cases hlt : j < n
    · have HR : Hid _ := hR.out
      have HC : Hid (RdI wr (.slice a n c) s ∧ s.length ≤ 1048576) := ⟨H.out.1.below hR.out.1, by rw [← H.out.2.1]; exact hn⟩
      clear hR
      have b1 : (j : Int) < (n : Int) := by omega
      go_wp2_with (fail)
      refine (sl_contains (j : Int) HC.out.2 HC.out.1).mono ?_
      rintro e w1 ⟨rfl, hb1⟩
      have HB : Hid (Below w.heap.size w w1) := HR.out.1.trans (hb1.mono HR.out.1.size)
      clear hb1
      by_cases hm : (j : Int) ∈ s
      · have HP : Hid (∀ k : Nat, k < j + 1 → (k : Int) ∈ s) := fun k hk => by
          rcases (by omega : k < j ∨ k = j) with e | rfl
          · exact HR.out.2 k e
          · exact hm
        have hdec : decide ((j : Int) ∈ s) = true := decide_eq_true hm
        rw [hdec]
        clear hm hdec
        go_wp2
        go_roundw
        case rel => exact ⟨j + 1, by omega, by go_num, HB.out, HP.out⟩
        case measure => simp [intOf]; omega
      · have HE : Hid (D = false) := by
          unfold Hid; rw [H.out.2.2]
          exact Bool.eq_false_iff.2 fun e => hm ((nmB_iff.1 e).2 _ (upI_mem.2 ⟨by omega, by rw [← H.out.2.1]; omega⟩))
        have hdec : decide ((j : Int) ∈ s) = false := decide_eq_false hm
        rw [hdec]
        clear hm hdec
        go_wp2
        go_returns
        exact ⟨by rw [HE.out]; rfl, HB.out⟩
    · have HE : Hid (D = true) := by
        unfold Hid; rw [H.out.2.2]
        refine nmB_iff.2 ⟨by rw [← H.out.2.1], fun x hx => ?_⟩
        obtain ⟨h1, h2⟩ := upI_mem.1 hx
        have := hR.out.2 x.toNat (by rw [← H.out.2.1] at h2; omega)
        have e : (x.toNat : Int) = x := by omega
        rw [← e]; exact this
      have HB : Hid (Below w.heap.size w wr) := hR.out.1
      clear hR
      go_wp2
      go_returns
      exact ⟨by rw [HE.out]; rfl, HB.out⟩

end Go.Proofs.Ytbfieehlekgjeaa
