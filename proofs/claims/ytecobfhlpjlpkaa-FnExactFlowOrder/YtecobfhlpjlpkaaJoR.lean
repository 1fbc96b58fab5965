/- Proved here: rotateCmpFunc at jobs: rotF. -/
import Derived.Test.YtecobfhlpjlpkaaJoS
namespace Go.Proofs.Ytecobfhlpjlpkaa
open Go.RowKit
set_option linter.unusedVariables false
set_option linter.unusedSimpArgs false


set_option maxRecDepth 10000 in
set_option maxHeartbeats 12800000 in
theorem rot_run {W w : World} {lo p g n cap : Nat} {l : List Jb} (a m b f : Nat) (ha : a < m) (hm : m < b) (hb : b ≤ n) (hf : b - a ≤ f) (hn : n ≤ 1000) (ho : OJ w lo g n cap l) (hW : Below lo W w) :
    Calls Try.prog 81 #[.slice (some ⟨g, 0, none⟩) n cap, .int .i64 a, .int .i64 m, .int .i64 b, .func (Fn.func 73) #[] #[.pointer (some ⟨p, 0, none⟩)]] w fun e w' => e = .returned (.tuple #[]) ∧ OJ w' lo g n cap (rotF m f (m - a) (b - m) l) ∧ Below lo W w' := by
  obtain ⟨R, hR⟩ : ∃ R, R = rotF m f (m - a) (b - m) l := ⟨_, rfl⟩
  have HS : Hid (OJ w lo g n cap l ∧ Below lo W w ∧ rotF m f (m - a) (b - m) l = R) := ⟨ho, hW, hR.symm⟩
  have HC : Hid (∀ (x y k : Nat) (l2 : List Jb) (X : World), x + k ≤ y → y + k ≤ n → OJ X lo g n cap l2 → Below lo W X → Calls Try.prog 82 #[.slice (some ⟨g, 0, none⟩) n cap, .int .i64 x, .int .i64 y, .int .i64 k, .func (Fn.func 73) #[] #[.pointer (some ⟨p, 0, none⟩)]] X fun e w' => e = .returned (.tuple #[]) ∧ OJ w' lo g n cap (swR x y k 0 l2) ∧ Below lo W w') := fun x y k l2 X h1 h2 h3 h4 => swr_run x y k h1 h2 hn h3 h4
  rw [← hR]
  clear ho hW hR
  have e1 : (m : Int) - (a : Int) = ((m - a : Nat) : Int) := by omega
  have e2 : (b : Int) - (m : Int) = ((b - m : Nat) : Int) := by omega
  obtain ⟨i0, hi0⟩ : ∃ i, i = m - a := ⟨_, rfl⟩
  obtain ⟨j0, hj0⟩ : ∃ i, i = b - m := ⟨_, rfl⟩
  rw [← hi0] at e1 HS
  rw [← hj0] at e2 HS
  have HIJ : Hid (1 ≤ i0 ∧ 1 ≤ j0 ∧ i0 ≤ m ∧ m + j0 ≤ n ∧ i0 + j0 ≤ f) := ⟨by omega, by omega, by omega, by omega, by omega⟩
  clear hi0 hj0
  go_enter Try.func81, Try.ntmps81
  go_wp2
  go_loopw [10, 11] (fun u v wr => ∃ (i j q : Nat) (l2 : List Jb), u = .int .i64 (i : Nat) ∧ v = .int .i64 (j : Nat) ∧ 1 ≤ i ∧ 1 ≤ j ∧ i ≤ m ∧ m + j ≤ n ∧ Hid (i + j ≤ q ∧ OJ wr lo g n cap l2 ∧ Below lo W wr ∧ rotF m q i j l2 = R)) (fun u v _ => (intOf u).toNat + (intOf v).toNat)
  case atStart => exact ⟨i0, j0, f, l, by go_num, by go_num, HIJ.out.1, HIJ.out.2.1, HIJ.out.2.2.1, HIJ.out.2.2.2.1, HIJ.out.2.2.2.2, HS.out⟩
  case round =>
    clear HS HIJ e1 e2
    obtain ⟨i, j, q, l2, rfl, rfl, hi1, hj1, him, hjm, hR⟩ := hrel
    obtain ⟨q, rfl⟩ : ∃ r, q = r + 1 := ⟨q - 1, by have := hR.out.1; omega⟩
    have c0 : (m : Int) - (i : Int) = ((m - i : Nat) : Int) := by omega
    have c1 : (i : Int) ≤ 1000 := by omega
    have c2 : (j : Int) ≤ 1000 := by omega
    rcases (by omega : i = j ∨ j < i ∨ i < j) with h | h | h
    · subst h
      have HE : Hid (OJ wr lo g n cap l2 ∧ Below lo W wr ∧ swR (m - i) m i 0 l2 = R) := by
        refine ⟨hR.out.2.1, hR.out.2.2.1, ?_⟩
        have := hR.out.2.2.2
        unfold rotF at this
        rw [if_pos rfl] at this
        exact this
      clear hR
      go_wp2_with (fail)
      refine (HC.out (m - i) m i l2 _ (by omega) (by omega) HE.out.1 HE.out.2.1).mono ?_
      rintro e w5 ⟨rfl, h1, h2⟩
      have HF : Hid (OJ w5 lo g n cap R ∧ Below lo W w5) := ⟨by rw [← HE.out.2.2]; exact h1, h2⟩
      clear h1 h2 HE
      go_wp2
      go_returns
      exact ⟨rfl, HF.out⟩
    · have HE : Hid (OJ wr lo g n cap l2 ∧ Below lo W wr ∧ rotF m q (i - j) j (swR (m - i) m j 0 l2) = R ∧ i - j + j ≤ q) := by
        refine ⟨hR.out.2.1, hR.out.2.2.1, ?_, by have := hR.out.1; omega⟩
        have := hR.out.2.2.2
        unfold rotF at this
        rw [if_neg (by omega), if_pos h] at this
        exact this
      have d0 : (j : Int) < (i : Int) := by omega
      have d1 : ¬ (i : Int) = (j : Int) := by omega
      have d2 : (i : Int) - (j : Int) = ((i - j : Nat) : Int) := by omega
      clear hR
      go_wp2_with (fail)
      refine (HC.out (m - i) m j l2 _ (by omega) (by omega) HE.out.1 HE.out.2.1).mono ?_
      rintro e w5 ⟨rfl, h1, h2⟩
      have HF : Hid (i - j + j ≤ q ∧ OJ w5 lo g n cap (swR (m - i) m j 0 l2) ∧ Below lo W w5 ∧ rotF m q (i - j) j (swR (m - i) m j 0 l2) = R) := ⟨HE.out.2.2.2, h1, h2, HE.out.2.2.1⟩
      clear h1 h2 HE
      go_wp2
      go_roundw
      case rel => exact ⟨i - j, j, q, _, by go_num, rfl, by omega, by omega, by omega, by omega, HF.out⟩
      case measure => simp [intOf]; omega
    · have HE : Hid (OJ wr lo g n cap l2 ∧ Below lo W wr ∧ rotF m q i (j - i) (swR (m - i) (m + j - i) i 0 l2) = R ∧ i + (j - i) ≤ q) := by
        refine ⟨hR.out.2.1, hR.out.2.2.1, ?_, by have := hR.out.1; omega⟩
        have := hR.out.2.2.2
        unfold rotF at this
        rw [if_neg (by omega), if_neg (by omega)] at this
        exact this
      have d0 : ¬ (j : Int) < (i : Int) := by omega
      have d1 : ¬ (i : Int) = (j : Int) := by omega
      have d2 : (j : Int) - (i : Int) = ((j - i : Nat) : Int) := by omega
      have d3 : (m : Int) + (j : Int) - (i : Int) = ((m + j - i : Nat) : Int) := by omega
      clear hR
      go_wp2_with (fail)
      refine (HC.out (m - i) (m + j - i) i l2 _ (by omega) (by omega) HE.out.1 HE.out.2.1).mono ?_
      rintro e w5 ⟨rfl, h1, h2⟩
      have HF : Hid (i + (j - i) ≤ q ∧ OJ w5 lo g n cap (swR (m - i) (m + j - i) i 0 l2) ∧ Below lo W w5 ∧ rotF m q i (j - i) (swR (m - i) (m + j - i) i 0 l2) = R) := ⟨HE.out.2.2.2, h1, h2, HE.out.2.2.1⟩
      clear h1 h2 HE
      go_wp2
      go_roundw
      case rel => exact ⟨i, j - i, q, _, rfl, by go_num, by omega, by omega, by omega, by omega, HF.out⟩
      case measure => simp [intOf]; omega

end Go.Proofs.Ytecobfhlpjlpkaa
