/- Proved here: CheckCorrection of both. -/
import Derived.Test.YtfjcebgknpccbabLnR
import Derived.Test.YtfjcebgknpccbabCrB
namespace Go.Proofs.Ytfjcebgknpccbab
open Go.RowKit
set_option linter.unusedVariables false
set_option linter.unusedSimpArgs false

/-- The first i numbers fall. -/
def faK (es : List Int) : Nat → Bool
  | 0 => true
  | i + 1 => faK es i && (decide (i = 0) || decide (es.getD i 0 < es.getD (i - 1) 0))
theorem faK_down {es : List Int} {i n : Nat} (h : i ≤ n) (hn : faK es n = true) : faK es i = true := by
  induction n with
  | zero => rw [show i = 0 by omega]; exact hn
  | succ n ih =>
    rw [faK, Bool.and_eq_true] at hn
    rcases Nat.lt_or_ge i (n + 1) with h' | h'
    · exact ih (by omega) hn.1
    · rw [show i = n + 1 by omega, faK, Bool.and_eq_true]; exact hn
theorem faK_no {es : List Int} {i n : Nat} (h : i ≤ n) (hn : faK es i = false) : faK es n = false := by
  cases hf : faK es n
  · rfl
  · rw [faK_down h hf] at hn; exact hn
def ckB (t s : List Ln) (len : Int) (ws : List Int) (K C : Int) (es : List Int) : Bool :=
  decide (C = 0) && decide (peC t s len ws K = 0) && decide (0 < es.length) && decide (es.getD (es.length - 1) 0 = peV t s len ws K) && faK es es.length && decide (es.getD 0 0 = peV t t len ws K)

set_option maxRecDepth 10000 in
set_option maxHeartbeats 3200000 in
theorem impl_falls {w : World} {v : Value} {es : List Int} (h : RdI w v es) (hn : es.length ≤ 1048576) :
    Calls Try.prog 41 #[v] w fun e w' => e = .returned (.bool (faK es es.length)) ∧ ∃ k, w' = w.drewN k := by
  obtain ⟨a, c, rfl⟩ := h.form
  obtain ⟨n, hnn⟩ : ∃ n, n = es.length := ⟨_, rfl⟩
  obtain ⟨B, hB⟩ : ∃ B, B = faK es n := ⟨_, rfl⟩
  rw [← hnn] at h hn ⊢
  rw [← hB]
  have H : Hid (RdI w (.slice a n c) es ∧ n = es.length ∧ B = faK es n) := ⟨h, hnn, hB⟩
  clear h hnn hB
  go_enter Try.func41, Try.ntmps41
  go_wp2
  go_loopw [3] (fun i wr => ∃ k : Nat, 1 ≤ k ∧ k ≤ max n 1 ∧ i = .int .i64 k ∧ Hid (faK es k = true ∧ ∃ q, wr = w.drewN q)) (fun i _ => n - (intOf i).toNat)
  case atStart => exact ⟨1, Nat.le_refl _, by omega, rfl, by simp [faK], 0, rfl⟩
  case round =>
    obtain ⟨k, hk1, hk, rfl, hR⟩ := hrel
    by_cases hlt : k < n
    · have b0 : (0 : Int) ≤ (k : Int) := by omega
      have b1 : (k : Int) < (n : Int) := by omega
      obtain ⟨q, hq⟩ := hR.out.2
      obtain ⟨kk, rfl⟩ : ∃ kk, k = kk + 1 := ⟨k - 1, by omega⟩
      have hbl : Below w.heap.size w wr := by rw [hq]; exact below_drewN (Below.refl _ _) _
      obtain ⟨g, o, hag, hgw, hx0⟩ := rd_at (j := kk) (H.out.1.below hbl) (by omega)
      obtain ⟨g', o', hag', _, hx1⟩ := rd_at (j := kk + 1) (H.out.1.below hbl) hlt
      subst hag
      injection hag' with hag'
      injection hag' with e1 e2
      subst e1 e2
      obtain ⟨X, hX⟩ : ∃ X, X = es.getD kk 0 := ⟨_, rfl⟩
      obtain ⟨Y, hY⟩ : ∃ X, X = es.getD (kk + 1) 0 := ⟨_, rfl⟩
      rw [← hX] at hx0
      rw [← hY] at hx1
      have HS : Hid (faK es (kk + 1 + 1) = decide (Y < X)) := by
        unfold Hid
        rw [faK, hR.out.1, hY, hX]
        simp
      have HQ : Hid (wr = w.drewN q) := hq
      have e9 : (((kk + 1 : Nat) : Int) - 1) = (kk : Int) := by omega
      clear hX hY hq hR hbl
      by_cases hc : Y < X
      · have d0 : decide (X ≤ Y) = false := by simp; omega
        have HN : Hid (faK es (kk + 1 + 1) = true) := by unfold Hid; rw [HS.out]; simp [hc]
        go_wp2
        go_quiet (fail)
        go_wp2
        go_roundw
        case rel => exact ⟨kk + 1 + 1, by omega, by omega, by go_num, HN.out, by rw [HQ.out]; exact ⟨_, World.drewN_drewN _ _ _⟩⟩
        case measure => simp [intOf]; omega
      · have hc2 : X ≤ Y := by omega
        have HN : Hid (B = false) := by
          unfold Hid; rw [H.out.2.2]
          exact faK_no (show kk + 1 + 1 ≤ n by omega) (by rw [HS.out]; simp [hc])
        go_wp2
        go_quiet (fail)
        go_wp2
        go_returns
        exact ⟨by rw [HN.out]; rfl, by rw [HQ.out]; exact ⟨_, World.drewN_drewN _ _ _⟩⟩
    · have b1 : ¬ (k : Int) < (n : Int) := by omega
      have HN : Hid (B = true) := by
        unfold Hid
        rw [H.out.2.2]
        exact faK_down (show n ≤ k by omega) hR.out.1
      have HQ : Hid (∃ q, wr = w.drewN q) := hR.out.2
      clear hR
      go_wp2
      go_returns
      exact ⟨by rw [HN.out]; rfl, HQ.out⟩

end Go.Proofs.Ytfjcebgknpccbab
