/- Proved here: slices.Index and slices.Contains at numbers. -/
import Derived.Test.YtgbbigokbbllgaaNlJ
import Derived.BigQuiet
namespace Go.Proofs.Ytgbbigokbbllgaa
open Go.RowKit
set_option linter.unusedVariables false
set_option linter.unusedSimpArgs false

theorem getD_at {s : List Int} {j : Nat} (h : j < s.length) : s.getD j 0 = s[j] := by
  rw [List.getD_eq_getElem?_getD, List.getElem?_eq_getElem h]; rfl
theorem not_mem_get {s : List Int} {x : Int} (h : ∀ k, k < s.length → s.getD k 0 ≠ x) : x ∉ s := by
  intro hx
  obtain ⟨k, hk, e⟩ := List.getElem_of_mem hx
  exact h k hk (by rw [getD_at hk]; exact e)
theorem mem_get {s : List Int} {x : Int} {k : Nat} (hk : k < s.length) (h : s.getD k 0 = x) : x ∈ s := by
  rw [← h, getD_at hk]; exact List.getElem_mem hk

set_option maxHeartbeats 1600000 in
theorem sl_index (x : Int) {w : World} {v : Value} {s : List Int} (hn : s.length ≤ 1048576) (h : RdI w v s) :
    Calls Try.prog 57 #[v, .int .i64 x] w fun e w' => (∃ r : Int, e = .returned (.int .i64 r) ∧ (0 ≤ r ↔ x ∈ s)) ∧ Below w.heap.size w w' := by
  obtain ⟨a, c, rfl⟩ := h.form
  obtain ⟨n, hnn⟩ : ∃ n, n = s.length := ⟨_, rfl⟩
  rw [← hnn] at hn h ⊢
  have H : Hid (RdI w (.slice a n c) s ∧ n = s.length) := ⟨h, hnn⟩
  clear h hnn
  go_enter Try.func57, Try.ntmps57
  go_wp2
  go_loopw [8] (fun i wr => ∃ j : Nat, j ≤ n ∧ i = .int .i64 j ∧ Hid (Below w.heap.size w wr ∧ ∀ k, k < j → s.getD k 0 ≠ x)) (fun i _ => n - (intOf i).toNat)
  case atStart => exact ⟨0, Nat.zero_le _, rfl, Below.refl _ _, fun k hk => by omega⟩
  case round =>
    obtain ⟨j, hjn, rfl, hR⟩ := hrel
    by_cases hlt : j < n
    · have hjl : j < s.length := by rw [← H.out.2]; exact hlt
      obtain ⟨g, o, c2, he, hg, hj⟩ := (H.out.1.below hR.out.1).ri (by rw [← H.out.2]; omega)
      simp only [Value.slice.injEq] at he
      obtain ⟨rfl, hx1, hx2⟩ := he
      clear hx1 hx2
      have c0 := hj j hjl
      obtain ⟨y, hy⟩ : ∃ y, y = s.getD j 0 := ⟨_, rfl⟩
      rw [← hy] at c0
      have HX : Hid (y = s.getD j 0 ∧ j < s.length) := ⟨hy, hjl⟩
      have HR : Hid _ := hR.out
      clear hy hj hjl hR
      have b0 : (0 : Int) ≤ (j : Int) := by omega
      have b1 : (j : Int) < (n : Int) := by omega
      by_cases hxy : x = y
      · have HM : Hid (x ∈ s) := mem_get HX.out.2 (by rw [← HX.out.1]; exact hxy.symm)
        go_wp2
        go_returns
        exact ⟨⟨_, rfl, ⟨fun _ => HM.out, fun _ => by omega⟩⟩, HR.out.1⟩
      · have HP : Hid (∀ k, k < j + 1 → s.getD k 0 ≠ x) := fun k hk => by
          rcases (by omega : k < j ∨ k = j) with e | rfl
          · exact HR.out.2 k e
          · rw [← HX.out.1]; exact fun e => hxy e.symm
        go_wp2
        go_roundw
        case rel => exact ⟨j + 1, by omega, by go_num, HR.out.1, HP.out⟩
        case measure => simp [intOf]; omega
    · have HM : Hid (x ∉ s) := not_mem_get (fun k hk => hR.out.2 k (by rw [← H.out.2] at hk; omega))
      have HB : Hid (Below w.heap.size w wr) := hR.out.1
      clear hR
      go_wp2
      go_returns
      exact ⟨⟨_, rfl, ⟨fun h => by omega, fun h => absurd h HM.out⟩⟩, HB.out⟩

set_option maxHeartbeats 1600000 in
theorem sl_contains (x : Int) {w : World} {v : Value} {s : List Int} (hn : s.length ≤ 1048576) (h : RdI w v s) :
    Calls Try.prog 48 #[v, .int .i64 x] w fun e w' => e = .returned (.bool (decide (x ∈ s))) ∧ Below w.heap.size w w' := by
  obtain ⟨a, c, rfl⟩ := h.form
  have H : Hid (RdI w (.slice a s.length c) s) := h
  obtain ⟨n, hnn⟩ : ∃ n, n = s.length := ⟨_, rfl⟩
  obtain ⟨D, hD⟩ : ∃ D, D = decide (x ∈ s) := ⟨_, rfl⟩
  have HD : Hid (D = decide (x ∈ s) ∧ s.length ≤ 1048576) := ⟨hD, hn⟩
  rw [← hnn] at H ⊢
  rw [← hD]
  clear h hnn hD hn
  go_enter Try.func48, Try.ntmps48
  go_wp2_with (fail)
  refine (sl_index x HD.out.2 H.out).mono ?_
  rintro e w1 ⟨⟨r, rfl, hr⟩, hb1⟩
  have HB : Hid (Below w.heap.size w w1) := hb1
  have HE : Hid (decide (r ≥ 0) = D) := by
    unfold Hid
    rw [HD.out.1]
    exact decide_eq_decide.2 hr
  clear hb1 hr
  go_wp2
  go_returns
  exact ⟨by rw [← HE.out]; rfl, HB.out⟩

end Go.Proofs.Ytgbbigokbbllgaa
