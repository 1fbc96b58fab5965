/- Proved here: the model's square root of a float, by what is met on the way; of the numbers that the unit roots ask for it is the nearest float. -/
import Derived.Test.YtgaabcgdfbgchaaSqR
namespace Go.Proofs.Ytgaabcgdfbgchaa
open Go.RowKit
set_option linter.unusedVariables false
set_option linter.unusedSimpArgs false

/-- Four times as much, j times. -/
def upS (f : Nat) : Nat → Nat
  | 0 => f
  | j + 1 => (floatBits .mul .f64 (upS f j) 4616189618054758400).getD 0
def dnS (g : Nat) : Nat → Nat
  | 0 => g
  | j + 1 => (floatBits .quo .f64 (dnS g j) 4611686018427387904).getD 0
def ltB (x : Nat) : Bool := FloatKind.f64.format.order x 4841369599423283200 == some .lt
def sqH (f : Nat) : Nat := ((List.range 40).find? fun j => !ltB (upS f j)).getD 0
def sqM (f : Nat) : Int := (floatToIntVal .f64 (upS f (sqH f)) .i64).getD 0
def sqQ (f : Nat) : Int := ((rtS (sqM f) 54).1 + 1) / 2
def sqK (f : Nat) : Nat := dnS (floatOfInt .f64 (sqQ f)) (sqH f + 26)
def sqB (f : Nat) : Bool :=
  (List.range (sqH f)).all (fun j => ltB (upS f j) && (floatBits .mul .f64 (upS f j) 4616189618054758400 == some (upS f (j + 1)))) && !ltB (upS f (sqH f)) && decide (sqH f ≤ 40) &&
  (floatToIntVal .f64 (upS f (sqH f)) .i64 == some (sqM f)) && decide (0 ≤ sqM f) && decide (sqM f < 1000000000000000000) && decide (0 ≤ (rtS (sqM f) 54).1) && decide ((rtS (sqM f) 54).1 < 1000000000000000000) &&
  (List.range (sqH f + 26)).all (fun j => floatBits .quo .f64 (dnS (floatOfInt .f64 (sqQ f)) j) 4611686018427387904 == some (dnS (floatOfInt .f64 (sqQ f)) (j + 1)))
structure SqOk (f : Nat) : Prop where
  up : ∀ j, j < sqH f → ltB (upS f j) = true ∧ floatBits .mul .f64 (upS f j) 4616189618054758400 = some (upS f (j + 1))
  top : ltB (upS f (sqH f)) = false
  few : sqH f ≤ 40
  int : floatToIntVal .f64 (upS f (sqH f)) .i64 = some (sqM f)
  m0 : 0 ≤ sqM f
  m1 : sqM f < 1000000000000000000
  r0 : 0 ≤ (rtS (sqM f) 54).1
  r1 : (rtS (sqM f) 54).1 < 1000000000000000000
  dn : ∀ j, j < sqH f + 26 → floatBits .quo .f64 (dnS (floatOfInt .f64 (sqQ f)) j) 4611686018427387904 = some (dnS (floatOfInt .f64 (sqQ f)) (j + 1))
theorem SqOk.of {f : Nat} (h : sqB f = true) : SqOk f := by
  unfold sqB at h
  simp only [Bool.and_eq_true, List.all_eq_true, List.mem_range, beq_iff_eq, Bool.not_eq_true', decide_eq_true_eq] at h
  obtain ⟨⟨⟨⟨⟨⟨⟨⟨a, b⟩, c⟩, d⟩, e⟩, f⟩, g⟩, i⟩, k⟩ := h
  exact ⟨a, b, c, d, e, f, g, i, k⟩
set_option maxRecDepth 100000 in
theorem sq_all : (List.range 18).all (fun k => sqB (on2 (k + 2)) && (sqK (on2 (k + 2)) == rtR (k + 2))) = true := by decide +kernel
theorem sq_at {i : Nat} (h1 : 2 ≤ i) (h2 : i < 20) : SqOk (on2 i) ∧ sqK (on2 i) = rtR i := by
  have h := List.all_eq_true.1 sq_all (i - 2) (List.mem_range.2 (by omega))
  simp only [show i - 2 + 2 = i by omega, Bool.and_eq_true, beq_iff_eq] at h
  exact ⟨SqOk.of h.1, h.2⟩

set_option maxHeartbeats 3200000 in
theorem spec_sqrt (f : Nat) (h : SqOk f) (w : World) : Calls Try.prog 73 #[.float .f64 f] w fun e w' => e = .returned (.float .f64 (sqK f)) ∧ ∃ n, w' = w.drewN n := by
  have H : Hid (SqOk f) := h
  obtain ⟨Hh, hHh⟩ : ∃ q, q = sqH f := ⟨_, rfl⟩
  have hfew : Hh ≤ 40 := by rw [hHh]; exact h.few
  have HH : Hid (Hh = sqH f) := hHh
  clear hHh h
  go_enter Try.func73, Try.ntmps73
  go_wp2
  go_loopw [0, 3] (fun x i wr => ∃ j n : Nat, j ≤ Hh ∧ i = .int .i64 j ∧ x = .float .f64 (upS f j) ∧ Hid (wr = w.drewN n)) (fun _ i _ => Hh - (intOf i).toNat)
  case atStart => exact ⟨0, 0, Nat.zero_le _, rfl, rfl, rfl⟩
  case round =>
    obtain ⟨j, n, hj, rfl, rfl, hR⟩ := hrel
    by_cases hlt : j < Hh
    · have hu := H.out.up j (by rw [← HH.out]; exact hlt)
      have hl : (FloatKind.f64.format.order (upS f j) 4841369599423283200 == some .lt) = true := hu.1
      have e1 : ∀ W, fres .mul (upS f j) 4616189618054758400 W = upS f (j + 1) := fun W => fres_of hu.2 W
      have e2 := fnn_of hu.2
      obtain rfl := hR.out
      clear hu hR
      go_wp2
      go_roundw
      case rel => exact ⟨j + 1, n + 0, by omega, by go_num, rfl, by unfold Hid; simp⟩
      case measure => simp [intOf]; omega
    · have hl : (FloatKind.f64.format.order (upS f j) 4841369599423283200 == some .lt) = false := by
        have := H.out.top
        rw [← HH.out, show Hh = j by omega] at this
        exact this
      have hjH : j = Hh := by omega
      obtain ⟨M, hM⟩ : ∃ M, M = sqM f := ⟨_, rfl⟩
      obtain ⟨N, hN⟩ : ∃ N, N = (rtS M 54).1 := ⟨_, rfl⟩
      have hNb : 0 ≤ N ∧ N < 1000000000000000000 := by rw [hN, hM]; exact ⟨H.out.r0, H.out.r1⟩
      have hMb : 0 ≤ M ∧ M < 1000000000000000000 := by rw [hM]; exact ⟨H.out.m0, H.out.m1⟩
      have hcv : ∀ W, (convert 22 2 (.float .f64 (upS f j))).run Try.prog W = .ok (.int .i64 M) W := fun W =>
        run_convert_float_int W _ _ .f64 .i64 _ _ (by rw [Try.underlying22]; rfl) Try.underlying2 (by rw [hM, hjH, HH.out]; exact H.out.int)
      have HRo : Hid (∀ W, Calls Try.prog 82 #[.int .i64 M] W fun e w' => e = .returned (.int .i64 N) ∧ w' = W) := fun W => by rw [hN]; exact spec_root M hMb.1 hMb.2 W
      have e3 : IntKind.i64.wrap (N + 1) = N + 1 := by rw [IntKind.wrap_i64]; omega
      have e4 : (N + 1).tdiv 2 = (N + 1) / 2 := Int.tdiv_eq_ediv_of_nonneg (by omega)
      have e5 : IntKind.i64.wrap ((N + 1) / 2) = (N + 1) / 2 := by rw [IntKind.wrap_i64]; omega
      obtain ⟨G, hG⟩ : ∃ G, G = floatOfInt .f64 ((N + 1) / 2) := ⟨_, rfl⟩
      have HG : Hid (G = floatOfInt .f64 (sqQ f)) := by unfold Hid; rw [hG, hN, hM]; rfl
      obtain rfl := hR.out
      subst hjH
      clear hR hM hN hMb
      go_wp2_with (fail)
      refine (HRo.out _).mono ?_
      rintro e w3 ⟨rfl, hw3⟩
      subst w3
      go_wp2
      rw [← hG]
      clear hG hcv HRo hl e3 e4 e5 hNb
      go_loopw [4, 5] (fun x i wr => ∃ k m : Nat, k ≤ j + 26 ∧ i = .int .i64 k ∧ x = .float .f64 (dnS G k) ∧ Hid (wr = w.drewN m)) (fun _ i _ => j + 26 - (intOf i).toNat)
      case atStart => exact ⟨0, n, Nat.zero_le _, rfl, rfl, rfl⟩
      case round =>
        obtain ⟨k, m, hk, rfl, rfl, hQ⟩ := hrel
        by_cases hltk : k < j + 26
        · have hd := H.out.dn k (by rw [← HH.out]; exact hltk)
          rw [← HG.out] at hd
          have e1 : ∀ W, fres .quo (dnS G k) 4611686018427387904 W = dnS G (k + 1) := fun W => fres_of hd W
          have e2 := fnn_of hd
          have bk : (k : Int) < (j : Int) + 26 := by omega
          obtain rfl := hQ.out
          clear hd hQ
          go_wp2
          go_roundw
          case rel => exact ⟨k + 1, m + 0, by omega, by go_num, rfl, by unfold Hid; simp⟩
          case measure => simp [intOf]; omega
        · have bk : ¬ (k : Int) < (j : Int) + 26 := by omega
          have HE : Hid (dnS G k = sqK f) := by unfold Hid; rw [sqK, ← HG.out, ← HH.out, show k = j + 26 by omega]
          obtain rfl := hQ.out
          go_wp2
          go_returns
          exact ⟨by rw [← HE.out]; rfl, m, rfl⟩

end Go.Proofs.Ytgaabcgdfbgchaa
