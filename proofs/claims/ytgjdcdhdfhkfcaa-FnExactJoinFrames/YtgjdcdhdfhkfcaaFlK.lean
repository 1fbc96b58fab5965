/- Proved here: how the laws' package marks lists of floats, and finds them marked. -/
import Derived.Test.YtgjdcdhdfhkfcaaFlC
import Derived.Test.YtgjdcdhdfhkfcaaFlS
import Derived.Test.YtgjdcdhdfhkfcaaLwS
import Derived.Test.YtgjdcdhdfhkfcaaVrM0
import Derived.OpenShut
import Derived.Lib.SmallJoins
namespace Go.Proofs.Ytgjdcdhdfhkfcaa
open Go.ChangeShapes Go.WideShapes Go.ChangeAt Go.RowKit Go.Joins Go.Deep
set_option linter.unusedVariables false
set_option linter.unusedSimpArgs false

/-- The numbers z, z + 1, .. as floats. -/
def marksL (z : Int) (n : Nat) : List Nat := (List.range n).map fun j : Nat => floatOfInt .f64 (z + (j : Int))
theorem marksL_length (z : Int) (n : Nat) : (marksL z n).length = n := by simp [marksL]
theorem marksL_at {z : Int} {n j : Nat} (h : j < n) : (marksL z n)[j]? = some (floatOfInt .f64 (z + (j : Int))) := by simp [marksL, h]
theorem foi_num (k : Int) : fv (floatOfInt .f64 k) = some (floatOfInt .f64 k) := fv_write (.number (k < 0) k.natAbs 0) rfl
theorem foi_eq (k : Int) : (FloatKind.f64.format.order (floatOfInt .f64 k) (floatOfInt .f64 k) != some .eq) = false := by
  rw [show FloatKind.f64.format = Ieee.double from rfl, ord_self (foi_num k)]; rfl
set_option maxRecDepth 10000 in
set_option maxHeartbeats 3200000 in
theorem mark1L {w : World} {B : Nat} {v : Value} {xs : List Nat} (z : Int) (hn : xs.length ≤ 1048576) (hk0 : 0 ≤ z) (hk1 : z ≤ 1000000000000) (h : OG 55 1 flC w B v xs) :
    Calls Try.prog 18 #[v, .int .i64 z] w fun e w' => e = .returned (.int .i64 (z + (xs.length : Int))) ∧ OG 55 1 flC w' B v (marksL z xs.length) ∧ ∃ g, B ≤ g ∧ (v.ownBlock = some g ∨ w' = w) ∧ Only g w w' := by
  rcases h.2 with ⟨rfl, h0⟩ | ⟨g, c, cur, rfl, hB, _⟩
  · obtain rfl : xs = [] := List.length_eq_zero_iff.1 h0
    clear h0 hn
    have H : Hid (OG 55 1 flC w B (.slice none 0 0) []) := h
    clear h
    go_enter Try.func18, Try.ntmps18
    go_wp2
    refine wp_loop_rounds 1 ?_
    rw [rounds_succ]
    go_wp2
    go_returns
    exact ⟨by simp, H.out, B, Nat.le_refl _, Or.inr rfl, Only.refl _ _⟩
  · obtain ⟨n, hnn⟩ : ∃ n, n = xs.length := ⟨_, rfl⟩
    rw [← hnn] at h hn ⊢
    have H : Hid (OFl w B (.slice (some ⟨g, 0, none⟩) n c) xs ∧ n = xs.length ∧ B ≤ g) := ⟨h, hnn, hB⟩
    clear h hnn hB
    go_enter Try.func18, Try.ntmps18
    go_wp2
    go_loopw [1, 5] (fun q i wr => ∃ j : Nat, j ≤ n ∧ i = .int .i64 j ∧ q = .int .i64 (z + (j : Int)) ∧ Hid (∃ ys : List Nat, ys.length = n ∧ (∀ t, t < j → ys[t]? = (marksL z n)[t]?) ∧ OFl wr B (.slice (some ⟨g, 0, none⟩) n c) ys ∧ Only g w wr)) (fun _ i _ => n - (intOf i).toNat)
    case atStart => exact ⟨0, Nat.zero_le _, rfl, by simp, xs, H.out.2.1.symm, fun t ht => absurd ht (Nat.not_lt_zero _), H.out.1, Only.refl _ _⟩
    case round =>
      obtain ⟨j, hjn, rfl, rfl, hR⟩ := hrel
      by_cases hlt : j < n
      · obtain ⟨ys, y1, y2, y3, y4⟩ := hR.out
        have b0 : (0 : Int) ≤ (j : Int) := by omega
        have b1 : (j : Int) < (n : Int) := by omega
        obtain ⟨⟨u0, g0⟩, f0⟩ := y3.there hlt
        have e1 : IntKind.i64.wrap (z + (j : Int) + 1) = z + (j : Int) + 1 := by rw [IntKind.wrap_i64]; omega
        obtain ⟨F, hF⟩ : ∃ F, F = floatOfInt .f64 (z + (j : Int)) := ⟨_, rfl⟩
        have HP : Hid (∃ ys : List Nat, ys.length = n ∧ (∀ t, t < j + 1 → ys[t]? = (marksL z n)[t]?) ∧ OFl (wr.setCell ⟨g, j, none⟩ (.float .f64 (floatOfInt .f64 (z + (j : Int))))) B (.slice (some ⟨g, 0, none⟩) n c) ys ∧ Only g w (wr.setCell ⟨g, j, none⟩ (.float .f64 (floatOfInt .f64 (z + (j : Int)))))) := by
          rw [← hF]
          refine ⟨ys.set j F, by simp [y1], fun t ht => ?_, OFl.set y3 j F, y4.set _ _⟩
          by_cases htj : t = j
          · subst htj; rw [List.getElem?_set_self (by omega), marksL_at hlt, hF]
          · rw [List.getElem?_set_ne (Ne.symm htj)]; exact y2 t (by omega)
        clear hR y1 y2 y3 y4 hF
        go_wp2
        go_roundw
        case rel => exact ⟨j + 1, by omega, by go_num, by go_num, HP.out⟩
        case measure => simp [intOf]; omega
      · have HE : Hid (j = n ∧ OFl wr B (.slice (some ⟨g, 0, none⟩) n c) (marksL z n) ∧ Only g w wr) := by
          obtain ⟨ys, y1, y2, y3, y4⟩ := hR.out
          have e : ys = marksL z n := by
            apply List.ext_getElem?
            intro t
            rcases Nat.lt_or_ge t n with ht | ht
            · exact y2 t (by omega)
            · rw [List.getElem?_eq_none (by omega), List.getElem?_eq_none (by rw [marksL_length]; omega)]
          rw [← e]
          exact ⟨by omega, y3, y4⟩
        have b1 : ¬ (j : Int) < (n : Int) := by omega
        clear hR
        go_wp2
        go_returns
        exact ⟨by rw [← HE.out.1]; rfl, HE.out.2.1, g, H.out.2.2, Or.inl rfl, HE.out.2.2⟩
set_option maxRecDepth 10000 in
set_option maxHeartbeats 3200000 in
theorem held1L {w : World} {B n : Nat} {v : Value} (z : Int) (hn : n ≤ 1048576) (hk0 : 0 ≤ z) (hk1 : z ≤ 1000000000000) (h : OG 55 1 flC w B v (marksL z n)) :
    Calls Try.prog 52 #[v, .int .i64 z] w fun e w' => e = .returned (.int .i64 (z + (n : Int))) ∧ w' = w := by
  have h := OG.rg flC_len h
  obtain ⟨a, c, rfl⟩ := h.form
  rw [marksL_length] at h ⊢
  have H : Hid (RFl w (.slice a n c) (marksL z n)) := h
  clear h
  go_enter Try.func52, Try.ntmps52
  go_wp2
  go_loopw [1, 5] (fun q i wr => ∃ j : Nat, j ≤ n ∧ i = .int .i64 j ∧ q = .int .i64 (z + (j : Int)) ∧ wr = w) (fun _ i _ => n - (intOf i).toNat)
  case atStart => exact ⟨0, Nat.zero_le _, rfl, by simp, rfl⟩
  case round =>
    obtain ⟨j, hjn, rfl, rfl, rfl⟩ := hrel
    by_cases hlt : j < n
    · obtain ⟨g, o, x, ha, hg, hx, c0⟩ := rf_at H.out hlt
      rw [marksL_at hlt] at hx
      injection hx with hx
      subst hx ha
      have b0 : (0 : Int) ≤ (j : Int) := by omega
      have b1 : (j : Int) < (n : Int) := by omega
      have q1 := foi_eq (z + (j : Int))
      have e1 : IntKind.i64.wrap (z + (j : Int) + 1) = z + (j : Int) + 1 := by rw [IntKind.wrap_i64]; omega
      go_wp2
      go_roundw
      case rel => exact ⟨j + 1, by omega, by go_num, by go_num, by trivial⟩
      case measure => simp [intOf]; omega
    · have hjn' : Hid (j = n) := by unfold Hid; omega
      have b1 : ¬ (j : Int) < (n : Int) := by omega
      go_wp2
      go_returns
      exact ⟨by rw [← hjn'.out]; rfl, rfl⟩
theorem markFloat64S_to {w : World} {B Z : Nat} {v : Value} {xs : List Nat} (z : Int) (hn : xs.length ≤ 1048576) (hz0 : 0 ≤ z) (hz1 : z ≤ 1000000000000) (h : w.ownsRow B 55 1 v xs.length (xs.flatMap flC)) (hZ : ∀ g, v.ownBlock = some g → g < Z) :
    Calls Try.prog 18 #[v, .int .i64 z] w fun e w' => e = .returned (.int .i64 (z + (xs.length : Int))) ∧ OG 55 1 flC w' B v (marksL z xs.length) ∧ Chg B Z w w' := by
  refine (mark1L z hn hz0 hz1 h).mono ?_
  rintro e w' ⟨rfl, h1, g, hB, hg, ho⟩
  refine ⟨rfl, h1, ?_⟩
  rcases hg with hg | rfl
  · exact Chg.only ho hB (hZ g hg)
  · exact Chg.refl _ _ _

end Go.Proofs.Ytgjdcdhdfhkfcaa
