/- Proved here: rotateCmpFunc at jobs: rotF. (And ahead of it: Proved here: swapRangeCmpFunc at jobs: swR. (And ahead of it: What a comparison of jobs that is handed to the sort does.)) -/
import Derived.Test.YtjbghflphngnkaaJoW
import Derived.Test.YtjbghflphngnkaaUnd
import Derived.BigQuiet
namespace Go.Proofs.Ytjbghflphngnkaa
open Go.RowKit
set_option linter.unusedVariables false
set_option linter.unusedSimpArgs false


/-- In every world that is as W was below lo, the function value with its box at p compares as c says. -/
def Cmp (W : World) (lo p : Nat) (c : Jb → Jb → Int) : Prop := ∀ (x y : Jb) (X : World), Below lo W X → Calls Try.prog 81 #[.agg #[.int .i64 x.id, .int .i64 x.co, .int .i64 x.ti, .int .i64 x.se, .int .i64 x.du, .int .i64 x.we, .int .i64 x.ki], .agg #[.int .i64 y.id, .int .i64 y.co, .int .i64 y.ti, .int .i64 y.se, .int .i64 y.du, .int .i64 y.we, .int .i64 y.ki], .pointer (some ⟨p, 0, none⟩)] X fun e w' => e = .returned (.int .i64 (c x y)) ∧ Below X.heap.size X w'
theorem OJ.drew {w : World} {lo g n cap : Nat} {l : List Jb} (h : OJ w lo g n cap l) : OJ w.drew lo g n cap l := h
theorem grown_lo {W w w' : World} {lo : Nat} {g : Nat} (h : Below lo W w) (hg : w.grownBy w' (some g)) (hl : lo ≤ g) (hs : lo ≤ w.heap.size) : Below lo W w' := h.grown hg hs (fun q hq => by injection hq with hq; omega)

end Go.Proofs.Ytjbghflphngnkaa

namespace Go.Proofs.Ytjbghflphngnkaa
open Go.RowKit
set_option linter.unusedVariables false
set_option linter.unusedSimpArgs false


set_option maxRecDepth 10000 in
set_option maxHeartbeats 12800000 in
theorem swr_run {W w : World} {lo p g n cap : Nat} {l : List Jb} (a b k : Nat) (ha : a + k ≤ b) (hb : b + k ≤ n) (hn : n ≤ 1000) (ho : OJ w lo g n cap l) (hW : Below lo W w) :
    Calls Try.prog 96 #[.slice (some ⟨g, 0, none⟩) n cap, .int .i64 a, .int .i64 b, .int .i64 k, .func (Fn.func 81) #[] #[.pointer (some ⟨p, 0, none⟩)]] w fun e w' => e = .returned (.tuple #[]) ∧ OJ w' lo g n cap (swR a b k 0 l) ∧ Below lo W w' := by
  have HL : Hid (lo ≤ g ∧ l.length = n) := ⟨ho.lt.1, ho.len.symm⟩
  obtain ⟨R, hR⟩ : ∃ R, R = swR a b k 0 l := ⟨_, rfl⟩
  have HS : Hid (OJ w lo g n cap l ∧ Below lo W w ∧ swR a b (k - 0) 0 l = R) := ⟨ho, hW, hR.symm⟩
  rw [← hR]
  clear ho hW hR
  go_enter Try.func96, Try.ntmps96
  go_wp2
  go_loopw [10] (fun i wr => ∃ (t : Nat) (l2 : List Jb), t ≤ k ∧ i = .int .i64 (t : Nat) ∧ Hid (OJ wr lo g n cap l2 ∧ Below lo W wr ∧ swR a b (k - t) t l2 = R)) (fun i _ => k - (intOf i).toNat)
  case atStart => exact ⟨0, l, Nat.zero_le _, by go_num, HS.out⟩
  case round =>
    clear HS
    obtain ⟨t, l2, ht, rfl, hR⟩ := hrel
    by_cases hlt : t < k
    · have HR2 : Hid (OJ wr lo g n cap l2 ∧ Below lo W wr ∧ swR a b (k - (t + 1)) (t + 1) (sw l2 (a + t) (b + t)) = R) := by
        refine ⟨hR.out.1, hR.out.2.1, ?_⟩
        have := hR.out.2.2
        rw [show k - t = (k - (t + 1)) + 1 by omega] at this
        exact this
      obtain ⟨i, hi⟩ : ∃ i, i = a + t := ⟨_, rfl⟩
      obtain ⟨j, hj⟩ : ∃ j, j = b + t := ⟨_, rfl⟩
      have b0 : (a : Int) + (t : Int) = (i : Int) := by omega
      have b1 : (b : Int) + (t : Int) = (j : Int) := by omega
      have hin : i < n := by omega
      have hjn : j < n := by omega
      have b2 : (i : Int) < (n : Int) := by omega
      have b3 : (j : Int) < (n : Int) := by omega
      have b4 : (0 : Int) ≤ (i : Int) := by omega
      have b5 : (0 : Int) ≤ (j : Int) := by omega
      have b6 : (t : Int) < (k : Int) := by omega
      have b7 : i < j := by omega
      rw [← hi, ← hj] at HR2
      obtain ⟨x, hx⟩ : ∃ x, x = jA l2 j := ⟨_, rfl⟩
      obtain ⟨y, hy⟩ : ∃ y, y = jA l2 i := ⟨_, rfl⟩
      have HX : Hid (x = jA l2 j ∧ y = jA l2 i) := ⟨hx, hy⟩
      clear hR hi hj hx hy
      obtain ⟨p0, p1, p2, p3, p4, p5, p6⟩ := HR2.out.1.at hin
      obtain ⟨q0, q1, q2, q3, q4, q5, q6⟩ := HR2.out.1.at hjn
      rw [← HX.out.1] at q0 q1 q2 q3 q4 q5 q6
      rw [← HX.out.2] at p0 p1 p2 p3 p4 p5 p6
      have hgl := HR2.out.1.lt.2
      have fp0 := HR2.out.1.fr (i * 7)
      have fq0 := HR2.out.1.fr (j * 7)
      have fp1 := HR2.out.1.fr (i * 7 + 1)
      have fq1 := HR2.out.1.fr (j * 7 + 1)
      have fp2 := HR2.out.1.fr (i * 7 + 2)
      have fq2 := HR2.out.1.fr (j * 7 + 2)
      have fp3 := HR2.out.1.fr (i * 7 + 3)
      have fq3 := HR2.out.1.fr (j * 7 + 3)
      have fp4 := HR2.out.1.fr (i * 7 + 4)
      have fq4 := HR2.out.1.fr (j * 7 + 4)
      have fp5 := HR2.out.1.fr (i * 7 + 5)
      have fq5 := HR2.out.1.fr (j * 7 + 5)
      have fp6 := HR2.out.1.fr (i * 7 + 6)
      have fq6 := HR2.out.1.fr (j * 7 + 6)
      go_wp2
      go_region
      have HSW : Hid (OJ (((((((((((((((wr.setCell ⟨g, i * 7, none⟩ (.int .i64 x.id)).setCell ⟨g, i * 7 + 1, none⟩ (.int .i64 x.co)).setCell ⟨g, i * 7 + 2, none⟩ (.int .i64 x.ti)).setCell ⟨g, i * 7 + 3, none⟩ (.int .i64 x.se)).setCell ⟨g, i * 7 + 4, none⟩ (.int .i64 x.du)).setCell ⟨g, i * 7 + 5, none⟩ (.int .i64 x.we)).setCell ⟨g, i * 7 + 6, none⟩ (.int .i64 x.ki)).setCell ⟨g, j * 7, none⟩ (.int .i64 y.id)).setCell ⟨g, j * 7 + 1, none⟩ (.int .i64 y.co)).setCell ⟨g, j * 7 + 2, none⟩ (.int .i64 y.ti)).setCell ⟨g, j * 7 + 3, none⟩ (.int .i64 y.se)).setCell ⟨g, j * 7 + 4, none⟩ (.int .i64 y.du)).setCell ⟨g, j * 7 + 5, none⟩ (.int .i64 y.we)).setCell ⟨g, j * 7 + 6, none⟩ (.int .i64 y.ki))).drew lo g n cap (sw l2 i j) ∧ Below lo W (((((((((((((((wr.setCell ⟨g, i * 7, none⟩ (.int .i64 x.id)).setCell ⟨g, i * 7 + 1, none⟩ (.int .i64 x.co)).setCell ⟨g, i * 7 + 2, none⟩ (.int .i64 x.ti)).setCell ⟨g, i * 7 + 3, none⟩ (.int .i64 x.se)).setCell ⟨g, i * 7 + 4, none⟩ (.int .i64 x.du)).setCell ⟨g, i * 7 + 5, none⟩ (.int .i64 x.we)).setCell ⟨g, i * 7 + 6, none⟩ (.int .i64 x.ki)).setCell ⟨g, j * 7, none⟩ (.int .i64 y.id)).setCell ⟨g, j * 7 + 1, none⟩ (.int .i64 y.co)).setCell ⟨g, j * 7 + 2, none⟩ (.int .i64 y.ti)).setCell ⟨g, j * 7 + 3, none⟩ (.int .i64 y.se)).setCell ⟨g, j * 7 + 4, none⟩ (.int .i64 y.du)).setCell ⟨g, j * 7 + 5, none⟩ (.int .i64 y.we)).setCell ⟨g, j * 7 + 6, none⟩ (.int .i64 y.ki))).drew ∧ swR a b (k - (t + 1)) (t + 1) (sw l2 i j) = R) := by
        obtain ⟨s1, s2⟩ := HR2.out.1.swap hin hjn HX.out.1 HX.out.2
        exact ⟨s1.drew, Below.drew (grown_lo HR2.out.2.1 s2 HL.out.1 (by have := HR2.out.1.lt; omega)), HR2.out.2.2⟩
      clear HR2 p0 p1 p2 p3 p4 p5 p6 q0 q1 q2 q3 q4 q5 q6 hgl fp0 fq0 fp1 fq1 fp2 fq2 fp3 fq3 fp4 fq4 fp5 fq5 fp6 fq6
      generalize (((((((((((((((wr.setCell ⟨g, i * 7, none⟩ (.int .i64 x.id)).setCell ⟨g, i * 7 + 1, none⟩ (.int .i64 x.co)).setCell ⟨g, i * 7 + 2, none⟩ (.int .i64 x.ti)).setCell ⟨g, i * 7 + 3, none⟩ (.int .i64 x.se)).setCell ⟨g, i * 7 + 4, none⟩ (.int .i64 x.du)).setCell ⟨g, i * 7 + 5, none⟩ (.int .i64 x.we)).setCell ⟨g, i * 7 + 6, none⟩ (.int .i64 x.ki)).setCell ⟨g, j * 7, none⟩ (.int .i64 y.id)).setCell ⟨g, j * 7 + 1, none⟩ (.int .i64 y.co)).setCell ⟨g, j * 7 + 2, none⟩ (.int .i64 y.ti)).setCell ⟨g, j * 7 + 3, none⟩ (.int .i64 y.se)).setCell ⟨g, j * 7 + 4, none⟩ (.int .i64 y.du)).setCell ⟨g, j * 7 + 5, none⟩ (.int .i64 y.we)).setCell ⟨g, j * 7 + 6, none⟩ (.int .i64 y.ki))).drew = W2 at HSW ⊢
      go_wp2
      go_roundw
      case rel => exact ⟨t + 1, sw l2 i j, by omega, by go_num, HSW.out⟩
      case measure => simp [intOf]; omega
    · obtain rfl : t = k := by omega
      have HE : Hid (OJ wr lo g n cap R ∧ Below lo W wr) := by
        have e := hR.out.2.2
        rw [Nat.sub_self] at e
        have e2 : l2 = R := e
        rw [← e2]; exact ⟨hR.out.1, hR.out.2.1⟩
      clear hR
      go_wp2
      go_returns
      exact ⟨rfl, HE.out⟩

end Go.Proofs.Ytjbghflphngnkaa

namespace Go.Proofs.Ytjbghflphngnkaa
open Go.RowKit
set_option linter.unusedVariables false
set_option linter.unusedSimpArgs false


set_option maxRecDepth 10000 in
set_option maxHeartbeats 12800000 in
theorem rot_run {W w : World} {lo p g n cap : Nat} {l : List Jb} (a m b f : Nat) (ha : a < m) (hm : m < b) (hb : b ≤ n) (hf : b - a ≤ f) (hn : n ≤ 1000) (ho : OJ w lo g n cap l) (hW : Below lo W w) :
    Calls Try.prog 95 #[.slice (some ⟨g, 0, none⟩) n cap, .int .i64 a, .int .i64 m, .int .i64 b, .func (Fn.func 81) #[] #[.pointer (some ⟨p, 0, none⟩)]] w fun e w' => e = .returned (.tuple #[]) ∧ OJ w' lo g n cap (rotF m f (m - a) (b - m) l) ∧ Below lo W w' := by
  obtain ⟨R, hR⟩ : ∃ R, R = rotF m f (m - a) (b - m) l := ⟨_, rfl⟩
  have HS : Hid (OJ w lo g n cap l ∧ Below lo W w ∧ rotF m f (m - a) (b - m) l = R) := ⟨ho, hW, hR.symm⟩
  have HC : Hid (∀ (x y k : Nat) (l2 : List Jb) (X : World), x + k ≤ y → y + k ≤ n → OJ X lo g n cap l2 → Below lo W X → Calls Try.prog 96 #[.slice (some ⟨g, 0, none⟩) n cap, .int .i64 x, .int .i64 y, .int .i64 k, .func (Fn.func 81) #[] #[.pointer (some ⟨p, 0, none⟩)]] X fun e w' => e = .returned (.tuple #[]) ∧ OJ w' lo g n cap (swR x y k 0 l2) ∧ Below lo W w') := fun x y k l2 X h1 h2 h3 h4 => swr_run x y k h1 h2 hn h3 h4
  rw [← hR]
  clear ho hW hR
  have e1 : (m : Int) - (a : Int) = ((m - a : Nat) : Int) := by omega
  have e2 : (b : Int) - (m : Int) = ((b - m : Nat) : Int) := by omega
  obtain ⟨i0, hi0⟩ : ∃ i, i = m - a := ⟨_, rfl⟩
  obtain ⟨j0, hj0⟩ : ∃ i, i = b - m := ⟨_, rfl⟩
  rw [← hi0] at e1 HS
  rw [← hj0] at e2 HS
  have HIJ : Hid (1 ≤ i0 ∧ 1 ≤ j0 ∧ i0 ≤ m ∧ m + j0 ≤ n ∧ i0 + j0 ≤ f) := ⟨by omega, by omega, by omega, by omega, by omega⟩
  clear hi0 hj0
  go_enter Try.func95, Try.ntmps95
  go_wp2
  go_loopw [10, 11] (fun u v wr => ∃ (i j q : Nat) (l2 : List Jb), u = .int .i64 (i : Nat) ∧ v = .int .i64 (j : Nat) ∧ 1 ≤ i ∧ 1 ≤ j ∧ i ≤ m ∧ m + j ≤ n ∧ Hid (i + j ≤ q ∧ OJ wr lo g n cap l2 ∧ Below lo W wr ∧ rotF m q i j l2 = R)) (fun u v _ => (intOf u).toNat + (intOf v).toNat)
  case atStart => exact ⟨i0, j0, f, l, by go_num, by go_num, HIJ.out.1, HIJ.out.2.1, HIJ.out.2.2.1, HIJ.out.2.2.2.1, HIJ.out.2.2.2.2, HS.out⟩
  case round =>
    clear HS HIJ e1 e2
    obtain ⟨i, j, q, l2, rfl, rfl, hi1, hj1, him, hjm, hR⟩ := hrel
    obtain ⟨q, rfl⟩ : ∃ r, q = r + 1 := ⟨q - 1, by have := hR.out.1; omega⟩
    have c0 : (m : Int) - (i : Int) = ((m - i : Nat) : Int) := by omega
    have c1 : (i : Int) ≤ 1000 := by omega
    have c2 : (j : Int) ≤ 1000 := by omega
    rcases (by omega : i = j ∨ j < i ∨ i < j) with h | h | h
    · subst h
      have HE : Hid (OJ wr lo g n cap l2 ∧ Below lo W wr ∧ swR (m - i) m i 0 l2 = R) := by
        refine ⟨hR.out.2.1, hR.out.2.2.1, ?_⟩
        have := hR.out.2.2.2
        unfold rotF at this
        rw [if_pos rfl] at this
        exact this
      clear hR
      go_wp2_with (fail)
      refine (HC.out (m - i) m i l2 _ (by omega) (by omega) HE.out.1 HE.out.2.1).mono ?_
      rintro e w5 ⟨rfl, h1, h2⟩
      have HF : Hid (OJ w5 lo g n cap R ∧ Below lo W w5) := ⟨by rw [← HE.out.2.2]; exact h1, h2⟩
      clear h1 h2 HE
      go_wp2
      go_returns
      exact ⟨rfl, HF.out⟩
    · have HE : Hid (OJ wr lo g n cap l2 ∧ Below lo W wr ∧ rotF m q (i - j) j (swR (m - i) m j 0 l2) = R ∧ i - j + j ≤ q) := by
        refine ⟨hR.out.2.1, hR.out.2.2.1, ?_, by have := hR.out.1; omega⟩
        have := hR.out.2.2.2
        unfold rotF at this
        rw [if_neg (by omega), if_pos h] at this
        exact this
      have d0 : (j : Int) < (i : Int) := by omega
      have d1 : ¬ (i : Int) = (j : Int) := by omega
      have d2 : (i : Int) - (j : Int) = ((i - j : Nat) : Int) := by omega
      clear hR
      go_wp2_with (fail)
      refine (HC.out (m - i) m j l2 _ (by omega) (by omega) HE.out.1 HE.out.2.1).mono ?_
      rintro e w5 ⟨rfl, h1, h2⟩
      have HF : Hid (i - j + j ≤ q ∧ OJ w5 lo g n cap (swR (m - i) m j 0 l2) ∧ Below lo W w5 ∧ rotF m q (i - j) j (swR (m - i) m j 0 l2) = R) := ⟨HE.out.2.2.2, h1, h2, HE.out.2.2.1⟩
      clear h1 h2 HE
      go_wp2
      go_roundw
      case rel => exact ⟨i - j, j, q, _, by go_num, rfl, by omega, by omega, by omega, by omega, HF.out⟩
      case measure => simp [intOf]; omega
    · have HE : Hid (OJ wr lo g n cap l2 ∧ Below lo W wr ∧ rotF m q i (j - i) (swR (m - i) (m + j - i) i 0 l2) = R ∧ i + (j - i) ≤ q) := by
        refine ⟨hR.out.2.1, hR.out.2.2.1, ?_, by have := hR.out.1; omega⟩
        have := hR.out.2.2.2
        unfold rotF at this
        rw [if_neg (by omega), if_neg (by omega)] at this
        exact this
      have d0 : ¬ (j : Int) < (i : Int) := by omega
      have d1 : ¬ (i : Int) = (j : Int) := by omega
      have d2 : (j : Int) - (i : Int) = ((j - i : Nat) : Int) := by omega
      have d3 : (m : Int) + (j : Int) - (i : Int) = ((m + j - i : Nat) : Int) := by omega
      clear hR
      go_wp2_with (fail)
      refine (HC.out (m - i) (m + j - i) i l2 _ (by omega) (by omega) HE.out.1 HE.out.2.1).mono ?_
      rintro e w5 ⟨rfl, h1, h2⟩
      have HF : Hid (i + (j - i) ≤ q ∧ OJ w5 lo g n cap (swR (m - i) (m + j - i) i 0 l2) ∧ Below lo W w5 ∧ rotF m q i (j - i) (swR (m - i) (m + j - i) i 0 l2) = R) := ⟨HE.out.2.2.2, h1, h2, HE.out.2.2.1⟩
      clear h1 h2 HE
      go_wp2
      go_roundw
      case rel => exact ⟨i, j - i, q, _, rfl, by go_num, by omega, by omega, by omega, by omega, HF.out⟩
      case measure => simp [intOf]; omega

end Go.Proofs.Ytjbghflphngnkaa
