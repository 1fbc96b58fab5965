/- Proved here: the model's IsApproved. -/
import Derived.Test.YtkacfjbhkgdpdaaTiM
namespace Go.Proofs.Ytkacfjbhkgdpdaa
open Go.ChangeShapes Go.WideShapes Go.ChangeAt Go.RowKit Go.Joins
set_option linter.unusedVariables false
set_option linter.unusedSimpArgs false


theorem tlAgg6 {w : World} {k : Nat} {a b c d e f g : Value} {T : TypeId} (h : w.heap[k]? = some (.cells #[a, b, c, d, e, f, g] T)) : w.cell? ⟨k, 6, none⟩ = some g ∧ k < w.heap.size := by
  refine ⟨by simp [World.cell?, h], ?_⟩
  rcases Nat.lt_or_ge k w.heap.size with h' | h'
  · exact h'
  · rw [Array.getElem?_eq_none h'] at h; cases h
set_option maxRecDepth 10000 in
set_option maxHeartbeats 3200000 in
theorem spec_ia (A : Int) (R : ByteArray) (S U L : Int) (Q : Bool) (nm : ByteArray) (su : Int) {w : World} {v : Value} {s : List Ap} (hn : s.length ≤ 1048576) (h : RG 2 apC w v s) :
    Calls Try.prog 30 #[.agg #[.int .i64 A, .string R, .int .i64 S, .int .i64 U, .int .i64 L, .bool Q, v], .string nm, .int .i64 su] w fun e w' => e = .returned (.bool (apB s nm su)) ∧ Below w.heap.size w w' := by
  obtain ⟨a, c, rfl⟩ := h.form
  obtain ⟨n, hnn⟩ : ∃ n, n = s.length := ⟨_, rfl⟩
  obtain ⟨D, hD⟩ : ∃ D, D = apB s nm su := ⟨_, rfl⟩
  rw [← hnn] at hn h ⊢
  rw [← hD]
  have H : Hid (RG 2 apC w (.slice a n c) s ∧ n = s.length ∧ D = apB s nm su) := ⟨h, hnn, hD⟩
  clear h hnn hD
  have HW : Hid (Below w.heap.size w (w.alloc (.cells #[.int .i64 A, .string R, .int .i64 S, .int .i64 U, .int .i64 L, .bool Q, .slice a n c] 31)) ∧ (w.alloc (.cells #[.int .i64 A, .string R, .int .i64 S, .int .i64 U, .int .i64 L, .bool Q, .slice a n c] 31)).heap[w.heap.size]? = some (.cells #[.int .i64 A, .string R, .int .i64 S, .int .i64 U, .int .i64 L, .bool Q, .slice a n c] 31)) := ⟨by (repeat' (first | (with_reducible exact Below.refl _ _) | (with_reducible assumption) | (with_reducible refine Below.setCell ?_ ?_ _) | (with_reducible refine Below.alloc ?_ ?_ _) | (with_reducible refine below_drewN ?_ _) | (with_reducible refine Below.drew ?_) | (with_reducible exact Nat.le_refl _) | omega | (simp; done) | (simp; omega))), heap_alloc_new _ _⟩
  go_enter Try.func30, Try.ntmps30
  go_wp2
  go_loopw [7] (fun i wr => ∃ j : Nat, j ≤ n ∧ i = .int .i64 j ∧ Hid (Below w.heap.size w wr ∧ wr.heap[w.heap.size]? = some (.cells #[.int .i64 A, .string R, .int .i64 S, .int .i64 U, .int .i64 L, .bool Q, .slice a n c] 31) ∧ ∀ k (h : k < s.length), k < j → ¬ (s[k].nm = nm ∧ s[k].su = su))) (fun i _ => n - (intOf i).toNat)
  case atStart => exact ⟨0, Nat.zero_le _, rfl, HW.out.1, HW.out.2, fun k _ hk => by omega⟩
  case round =>
    clear HW
    obtain ⟨j, hjn, rfl, hR⟩ := hrel
    obtain ⟨d6, dl⟩ := tlAgg6 hR.out.2.1
    by_cases hlt : j < n
    · have hjl : j < s.length := by rw [← H.out.2.1]; exact hlt
      obtain ⟨g, o, c2, he, hg, hj⟩ := (H.out.1.below hR.out.1).pos (by rw [← H.out.2.1]; omega)
      simp only [Value.slice.injEq] at he
      obtain ⟨rfl, hx1, hx2⟩ := he
      clear hx1 hx2
      obtain ⟨c0, c1⟩ := apC_at (hj j hjl)
      obtain ⟨y, hy⟩ : ∃ y, y = s[j] := ⟨_, rfl⟩
      rw [← hy] at c0 c1
      have HR : Hid _ := hR.out
      have HT : Hid (y.nm = nm → y.su = su → D = true) := fun e1 e2 => by rw [H.out.2.2]; exact apB_true hjl (by rw [← hy]; exact e1) (by rw [← hy]; exact e2)
      have HF : Hid (¬ (y.nm = nm ∧ y.su = su) → ∀ k (h : k < s.length), k < j + 1 → ¬ (s[k].nm = nm ∧ s[k].su = su)) := fun hne k hk hkj => by
        rcases (by omega : k < j ∨ k = j) with e | rfl
        · exact hR.out.2.2 k hk e
        · rw [← hy]; exact hne
      clear hy hj hjl hR
      have b0 : (0 : Int) ≤ (j : Int) := by omega
      have b1 : (j : Int) < (n : Int) := by omega
      by_cases h1 : y.nm = nm
      · by_cases h2 : y.su = su
        · have HM : Hid (D = true) := HT.out h1 h2
          rw [h1] at c0
          rw [h2] at c1
          clear HT HF h1 h2
          go_wp2
          go_returns
          exact ⟨by rw [HM.out]; rfl, HR.out.1⟩
        · have HP := HF.out (fun e => h2 e.2)
          have HP' : Hid _ := HP
          rw [h1] at c0
          clear HP HT HF h1
          go_wp2
          go_roundw
          case rel => exact ⟨j + 1, by omega, by go_num, HR.out.1, HR.out.2.1, HP'.out⟩
          case measure => simp [intOf]; omega
      · have HP := HF.out (fun e => h1 e.1)
        have HP' : Hid _ := HP
        have e1 := str_ne h1
        clear HP HT HF
        go_wp2
        go_roundw
        case rel => exact ⟨j + 1, by omega, by go_num, HR.out.1, HR.out.2.1, HP'.out⟩
        case measure => simp [intOf]; omega
    · have HM : Hid (D = false) := by unfold Hid; rw [H.out.2.2]; exact apB_false (fun k hk => hR.out.2.2 k hk (by rw [← H.out.2.1] at hk; omega))
      have HB : Hid (Below w.heap.size w wr) := hR.out.1
      clear hR
      go_wp2
      go_returns
      exact ⟨by rw [HM.out]; rfl, HB.out⟩

end Go.Proofs.Ytkacfjbhkgdpdaa
