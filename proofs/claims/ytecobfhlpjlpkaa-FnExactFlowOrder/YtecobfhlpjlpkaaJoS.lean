/- Proved here: swapRangeCmpFunc at jobs: swR. (And ahead of it: What a comparison of jobs that is handed to the sort does.) -/
import Derived.Test.YtecobfhlpjlpkaaJoW
import Derived.Test.YtecobfhlpjlpkaaUnd
import Derived.BigQuiet
namespace Go.Proofs.Ytecobfhlpjlpkaa
open Go.RowKit
set_option linter.unusedVariables false
set_option linter.unusedSimpArgs false


/-- In every world that is as W was below lo, the function value with its box at p compares as c says. -/
def Cmp (W : World) (lo p : Nat) (c : Jb → Jb → Int) : Prop := ∀ (x y : Jb) (X : World), Below lo W X → Calls Try.prog 73 #[.agg #[.int .i64 x.id, .int .i64 x.co, .int .i64 x.ti, .int .i64 x.se, .int .i64 x.du, .int .i64 x.we, .int .i64 x.ki], .agg #[.int .i64 y.id, .int .i64 y.co, .int .i64 y.ti, .int .i64 y.se, .int .i64 y.du, .int .i64 y.we, .int .i64 y.ki], .pointer (some ⟨p, 0, none⟩)] X fun e w' => e = .returned (.int .i64 (c x y)) ∧ Below X.heap.size X w'
theorem OJ.drew {w : World} {lo g n cap : Nat} {l : List Jb} (h : OJ w lo g n cap l) : OJ w.drew lo g n cap l := h
theorem grown_lo {W w w' : World} {lo : Nat} {g : Nat} (h : Below lo W w) (hg : w.grownBy w' (some g)) (hl : lo ≤ g) (hs : lo ≤ w.heap.size) : Below lo W w' := h.grown hg hs (fun q hq => by injection hq with hq; omega)

end Go.Proofs.Ytecobfhlpjlpkaa

namespace Go.Proofs.Ytecobfhlpjlpkaa
open Go.RowKit
set_option linter.unusedVariables false
set_option linter.unusedSimpArgs false


set_option maxRecDepth 10000 in
set_option maxHeartbeats 12800000 in
theorem swr_run {W w : World} {lo p g n cap : Nat} {l : List Jb} (a b k : Nat) (ha : a + k ≤ b) (hb : b + k ≤ n) (hn : n ≤ 1000) (ho : OJ w lo g n cap l) (hW : Below lo W w) :
    Calls Try.prog 82 #[.slice (some ⟨g, 0, none⟩) n cap, .int .i64 a, .int .i64 b, .int .i64 k, .func (Fn.func 73) #[] #[.pointer (some ⟨p, 0, none⟩)]] w fun e w' => e = .returned (.tuple #[]) ∧ OJ w' lo g n cap (swR a b k 0 l) ∧ Below lo W w' := by
  have HL : Hid (lo ≤ g ∧ l.length = n) := ⟨ho.lt.1, ho.len.symm⟩
  obtain ⟨R, hR⟩ : ∃ R, R = swR a b k 0 l := ⟨_, rfl⟩
  have HS : Hid (OJ w lo g n cap l ∧ Below lo W w ∧ swR a b (k - 0) 0 l = R) := ⟨ho, hW, hR.symm⟩
  rw [← hR]
  clear ho hW hR
  go_enter Try.func82, Try.ntmps82
  go_wp2
  go_loopw [10] (fun i wr => ∃ (t : Nat) (l2 : List Jb), t ≤ k ∧ i = .int .i64 (t : Nat) ∧ Hid (OJ wr lo g n cap l2 ∧ Below lo W wr ∧ swR a b (k - t) t l2 = R)) (fun i _ => k - (intOf i).toNat)
  case atStart => exact ⟨0, l, Nat.zero_le _, by go_num, HS.out⟩
  case round =>
    clear HS
    obtain ⟨t, l2, ht, rfl, hR⟩ := hrel
    by_cases hlt : t < k
    · have HR2 : Hid (OJ wr lo g n cap l2 ∧ Below lo W wr ∧ swR a b (k - (t + 1)) (t + 1) (sw l2 (a + t) (b + t)) = R) := by
        refine ⟨hR.out.1, hR.out.2.1, ?_⟩
        have := hR.out.2.2
        rw [show k - t = (k - (t + 1)) + 1 by omega] at this
        exact this
      obtain ⟨i, hi⟩ : ∃ i, i = a + t := ⟨_, rfl⟩
      obtain ⟨j, hj⟩ : ∃ j, j = b + t := ⟨_, rfl⟩
      have b0 : (a : Int) + (t : Int) = (i : Int) := by omega
      have b1 : (b : Int) + (t : Int) = (j : Int) := by omega
      have hin : i < n := by omega
      have hjn : j < n := by omega
      have b2 : (i : Int) < (n : Int) := by omega
      have b3 : (j : Int) < (n : Int) := by omega
      have b4 : (0 : Int) ≤ (i : Int) := by omega
      have b5 : (0 : Int) ≤ (j : Int) := by omega
      have b6 : (t : Int) < (k : Int) := by omega
      have b7 : i < j := by omega
      rw [← hi, ← hj] at HR2
      obtain ⟨x, hx⟩ : ∃ x, x = jA l2 j := ⟨_, rfl⟩
      obtain ⟨y, hy⟩ : ∃ y, y = jA l2 i := ⟨_, rfl⟩
      have HX : Hid (x = jA l2 j ∧ y = jA l2 i) := ⟨hx, hy⟩
      clear hR hi hj hx hy
      obtain ⟨p0, p1, p2, p3, p4, p5, p6⟩ := HR2.out.1.at hin
      obtain ⟨q0, q1, q2, q3, q4, q5, q6⟩ := HR2.out.1.at hjn
      rw [← HX.out.1] at q0 q1 q2 q3 q4 q5 q6
      rw [← HX.out.2] at p0 p1 p2 p3 p4 p5 p6
      have hgl := HR2.out.1.lt.2
      have fp0 := HR2.out.1.fr (i * 7)
      have fq0 := HR2.out.1.fr (j * 7)
      have fp1 := HR2.out.1.fr (i * 7 + 1)
      have fq1 := HR2.out.1.fr (j * 7 + 1)
      have fp2 := HR2.out.1.fr (i * 7 + 2)
      have fq2 := HR2.out.1.fr (j * 7 + 2)
      have fp3 := HR2.out.1.fr (i * 7 + 3)
      have fq3 := HR2.out.1.fr (j * 7 + 3)
      have fp4 := HR2.out.1.fr (i * 7 + 4)
      have fq4 := HR2.out.1.fr (j * 7 + 4)
      have fp5 := HR2.out.1.fr (i * 7 + 5)
      have fq5 := HR2.out.1.fr (j * 7 + 5)
      have fp6 := HR2.out.1.fr (i * 7 + 6)
      have fq6 := HR2.out.1.fr (j * 7 + 6)
      go_wp2
      go_region
      have HSW : Hid (OJ (((((((((((((((wr.setCell ⟨g, i * 7, none⟩ (.int .i64 x.id)).setCell ⟨g, i * 7 + 1, none⟩ (.int .i64 x.co)).setCell ⟨g, i * 7 + 2, none⟩ (.int .i64 x.ti)).setCell ⟨g, i * 7 + 3, none⟩ (.int .i64 x.se)).setCell ⟨g, i * 7 + 4, none⟩ (.int .i64 x.du)).setCell ⟨g, i * 7 + 5, none⟩ (.int .i64 x.we)).setCell ⟨g, i * 7 + 6, none⟩ (.int .i64 x.ki)).setCell ⟨g, j * 7, none⟩ (.int .i64 y.id)).setCell ⟨g, j * 7 + 1, none⟩ (.int .i64 y.co)).setCell ⟨g, j * 7 + 2, none⟩ (.int .i64 y.ti)).setCell ⟨g, j * 7 + 3, none⟩ (.int .i64 y.se)).setCell ⟨g, j * 7 + 4, none⟩ (.int .i64 y.du)).setCell ⟨g, j * 7 + 5, none⟩ (.int .i64 y.we)).setCell ⟨g, j * 7 + 6, none⟩ (.int .i64 y.ki))).drew lo g n cap (sw l2 i j) ∧ Below lo W (((((((((((((((wr.setCell ⟨g, i * 7, none⟩ (.int .i64 x.id)).setCell ⟨g, i * 7 + 1, none⟩ (.int .i64 x.co)).setCell ⟨g, i * 7 + 2, none⟩ (.int .i64 x.ti)).setCell ⟨g, i * 7 + 3, none⟩ (.int .i64 x.se)).setCell ⟨g, i * 7 + 4, none⟩ (.int .i64 x.du)).setCell ⟨g, i * 7 + 5, none⟩ (.int .i64 x.we)).setCell ⟨g, i * 7 + 6, none⟩ (.int .i64 x.ki)).setCell ⟨g, j * 7, none⟩ (.int .i64 y.id)).setCell ⟨g, j * 7 + 1, none⟩ (.int .i64 y.co)).setCell ⟨g, j * 7 + 2, none⟩ (.int .i64 y.ti)).setCell ⟨g, j * 7 + 3, none⟩ (.int .i64 y.se)).setCell ⟨g, j * 7 + 4, none⟩ (.int .i64 y.du)).setCell ⟨g, j * 7 + 5, none⟩ (.int .i64 y.we)).setCell ⟨g, j * 7 + 6, none⟩ (.int .i64 y.ki))).drew ∧ swR a b (k - (t + 1)) (t + 1) (sw l2 i j) = R) := by
        obtain ⟨s1, s2⟩ := HR2.out.1.swap hin hjn HX.out.1 HX.out.2
        exact ⟨s1.drew, Below.drew (grown_lo HR2.out.2.1 s2 HL.out.1 (by have := HR2.out.1.lt; omega)), HR2.out.2.2⟩
      clear HR2 p0 p1 p2 p3 p4 p5 p6 q0 q1 q2 q3 q4 q5 q6 hgl fp0 fq0 fp1 fq1 fp2 fq2 fp3 fq3 fp4 fq4 fp5 fq5 fp6 fq6
      generalize (((((((((((((((wr.setCell ⟨g, i * 7, none⟩ (.int .i64 x.id)).setCell ⟨g, i * 7 + 1, none⟩ (.int .i64 x.co)).setCell ⟨g, i * 7 + 2, none⟩ (.int .i64 x.ti)).setCell ⟨g, i * 7 + 3, none⟩ (.int .i64 x.se)).setCell ⟨g, i * 7 + 4, none⟩ (.int .i64 x.du)).setCell ⟨g, i * 7 + 5, none⟩ (.int .i64 x.we)).setCell ⟨g, i * 7 + 6, none⟩ (.int .i64 x.ki)).setCell ⟨g, j * 7, none⟩ (.int .i64 y.id)).setCell ⟨g, j * 7 + 1, none⟩ (.int .i64 y.co)).setCell ⟨g, j * 7 + 2, none⟩ (.int .i64 y.ti)).setCell ⟨g, j * 7 + 3, none⟩ (.int .i64 y.se)).setCell ⟨g, j * 7 + 4, none⟩ (.int .i64 y.du)).setCell ⟨g, j * 7 + 5, none⟩ (.int .i64 y.we)).setCell ⟨g, j * 7 + 6, none⟩ (.int .i64 y.ki))).drew = W2 at HSW ⊢
      go_wp2
      go_roundw
      case rel => exact ⟨t + 1, sw l2 i j, by omega, by go_num, HSW.out⟩
      case measure => simp [intOf]; omega
    · obtain rfl : t = k := by omega
      have HE : Hid (OJ wr lo g n cap R ∧ Below lo W wr) := by
        have e := hR.out.2.2
        rw [Nat.sub_self] at e
        have e2 : l2 = R := e
        rw [← e2]; exact ⟨hR.out.1, hR.out.2.1⟩
      clear hR
      go_wp2
      go_returns
      exact ⟨rfl, HE.out⟩

end Go.Proofs.Ytecobfhlpjlpkaa
