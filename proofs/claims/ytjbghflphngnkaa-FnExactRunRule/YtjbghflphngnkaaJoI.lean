/- Proved here: insertionSortCmpFunc at jobs: insS. -/
import Derived.Test.YtjbghflphngnkaaJoR
import Derived.BigQuiet
namespace Go.Proofs.Ytjbghflphngnkaa
open Go.RowKit
set_option linter.unusedVariables false
set_option linter.unusedSimpArgs false


set_option maxRecDepth 10000 in
set_option maxHeartbeats 12800000 in
theorem ins_run {W w : World} {lo p g n cap : Nat} {c : Jb → Jb → Int} {l : List Jb} (a b : Nat) (hab : a ≤ b) (hbn : b ≤ n) (hn : n ≤ 1000) (hC : Cmp W lo p c) (ho : OJ w lo g n cap l) (hW : Below lo W w) :
    Calls Try.prog 93 #[.slice (some ⟨g, 0, none⟩) n cap, .int .i64 a, .int .i64 b, .func (Fn.func 81) #[] #[.pointer (some ⟨p, 0, none⟩)]] w fun e w' => e = .returned (.tuple #[]) ∧ OJ w' lo g n cap (insS c a b l) ∧ Below lo W w' := by
  have HL : Hid (lo ≤ g ∧ l.length = n) := ⟨ho.lt.1, ho.len.symm⟩
  obtain ⟨R, hR⟩ : ∃ R, R = insS c a b l := ⟨_, rfl⟩
  have HS : Hid (OJ w lo g n cap l ∧ Below lo W w ∧ insO c a (b - (a + 1)) (a + 1) l = R) := ⟨ho, hW, hR.symm⟩
  have HC : Hid (Cmp W lo p c) := hC
  rw [← hR]
  clear ho hW hR hC
  go_enter Try.func93, Try.ntmps93
  go_wp2
  go_loopw [8] (fun i wr => ∃ k l2, a + 1 ≤ k ∧ (k ≤ b ∨ k = a + 1) ∧ i = .int .i64 (k : Nat) ∧ Hid (OJ wr lo g n cap l2 ∧ Below lo W wr ∧ insO c a (b - k) k l2 = R)) (fun i _ => b - (intOf i).toNat)
  case atStart => exact ⟨a + 1, l, Nat.le_refl _, Or.inr rfl, by go_num, HS.out⟩
  case round =>
    clear HS
    obtain ⟨k, l2, hk1, hk2, rfl, hR⟩ := hrel
    by_cases hlt : k < b
    · have b0 : (a : Int) < (k : Int) := by omega
      have b1 : (k : Int) < (b : Int) := by omega
      have HR2 : Hid (OJ wr lo g n cap l2 ∧ Below lo W wr ∧ insO c a (b - (k + 1)) (k + 1) (insJ c a k l2) = R) := by
        refine ⟨hR.out.1, hR.out.2.1, ?_⟩
        have := hR.out.2.2
        rw [show b - k = (b - (k + 1)) + 1 by omega] at this
        exact this
      clear hR
      go_wp2
      go_loopw [9] (fun i w3 => ∃ j l3, a ≤ j ∧ j ≤ k ∧ i = .int .i64 (j : Nat) ∧ Hid (OJ w3 lo g n cap l3 ∧ Below lo W w3 ∧ insO c a (b - (k + 1)) (k + 1) (insJ c a j l3) = R)) (fun i _ => (intOf i).toNat)
      case atStart => exact ⟨k, l2, by omega, Nat.le_refl _, by go_num, HR2.out⟩
      case round =>
        clear HR2
        obtain ⟨j, l3, hj1, hj2, rfl, hR3⟩ := hrel
        by_cases hja : a < j
        case neg =>
          obtain rfl : j = a := by omega
          have HE : Hid (OJ wr lo g n cap l3 ∧ Below lo W wr ∧ insO c j (b - (k + 1)) (k + 1) l3 = R) := by
            refine ⟨hR3.out.1, hR3.out.2.1, ?_⟩
            have := hR3.out.2.2
            have e : insJ c j j l3 = l3 := by cases j with
              | zero => rfl
              | succ j => unfold insJ; rw [if_neg (by omega)]
            rw [e] at this
            exact this
          clear hR3
          have h1 : decide ((j : Int) > (j : Int)) = false := decide_eq_false (by omega)
          go_wp2_with (fail)
          (refine wp_region_und (by kernel_rfl) (by kernel_rfl) (fun hund => ?_); (repeat (go_big_quiet_step (fail))); with_reducible refine wpQuiet_nil ?_; clear hund; intro W1 hb1; obtain ⟨hc1, hf1⟩ := undcell hb1)
          have HE2 : Hid (OJ W1 lo g n cap l3 ∧ Below lo W W1 ∧ insO c j (b - (k + 1)) (k + 1) l3 = R) := ⟨HE.out.1.below hb1, HE.out.2.1.trans (hb1.mono (by have := HE.out.2.1.size; have := HE.out.1.lt; omega)), HE.out.2.2⟩
          clear HE hb1 hc1 hf1
          go_wp2
          go_roundw
          case rel => exact ⟨k + 1, l3, by omega, Or.inl (by omega), by go_num, HE2.out⟩
          case measure => simp [intOf]; omega
        obtain ⟨i, hij⟩ : ∃ i, j = i + 1 := ⟨j - 1, by omega⟩
        have h1 : (a : Int) < (j : Int) := by omega
        have hin : j < n := by omega
        obtain ⟨p0, p1, p2, p3, p4, p5, p6⟩ := hR3.out.1.at (j := i) (by omega)
        obtain ⟨q0, q1, q2, q3, q4, q5, q6⟩ := hR3.out.1.at (j := j) hin
        obtain ⟨x, hx⟩ : ∃ x, x = jA l3 j := ⟨_, rfl⟩
        obtain ⟨y, hy⟩ : ∃ y, y = jA l3 i := ⟨_, rfl⟩
        rw [← hx] at q0 q1 q2 q3 q4 q5 q6
        rw [← hy] at p0 p1 p2 p3 p4 p5 p6
        obtain ⟨r, hr⟩ : ∃ r, r = c x y := ⟨_, rfl⟩
        have HX : Hid (x = jA l3 j ∧ y = jA l3 i ∧ r = c x y) := ⟨hx, hy, hr⟩
        have hgl := hR3.out.1.lt.2
        have b2 : (0 : Int) ≤ (i : Int) := by omega
        have b3 : (j : Int) < (n : Int) := by omega
        have b4 : (j : Int) - 1 = (i : Int) := by omega
        have b5 : (i : Int) < (n : Int) := by omega
        have HCU : Hid (∀ X : Und wr.heap.size wr, Calls Try.prog 81 #[.agg #[.int .i64 x.id, .int .i64 x.co, .int .i64 x.ti, .int .i64 x.se, .int .i64 x.du, .int .i64 x.we, .int .i64 x.ki], .agg #[.int .i64 y.id, .int .i64 y.co, .int .i64 y.ti, .int .i64 y.se, .int .i64 y.du, .int .i64 y.we, .int .i64 y.ki], .pointer (some ⟨p, 0, none⟩)] X.W fun e w' => e = .returned (.int .i64 r) ∧ Below X.W.heap.size X.W w') := fun X => by
          rw [hr]; exact HC.out x y X.W (hR3.out.2.1.trans (X.below.mono (by have := hR3.out.1.lt; omega)))
        have HIJ : Hid (j = i + 1) := hij
        have b6 : (0 : Int) ≤ (j : Int) := by omega
        clear hx hy hr hij
        go_wp2_with (fail)
        (refine wp_region_und (by kernel_rfl) (by kernel_rfl) (fun hund => ?_); (repeat (go_big_quiet_step (first | (go_at_call 81; with_reducible refine und_call ?_ (HCU.out _); exact Nat.le_refl _)))); with_reducible refine wpQuiet_nil ?_; clear hund; intro W1 hb1; obtain ⟨hc1, hf1⟩ := undcell hb1)
        have HO : Hid (OJ W1 lo g n cap l3 ∧ Below lo W W1 ∧ insO c a (b - (k + 1)) (k + 1) (insJ c a j l3) = R) := ⟨hR3.out.1.below hb1, hR3.out.2.1.trans (hb1.mono (by have := hR3.out.1.lt; omega)), hR3.out.2.2⟩
        clear hb1 hc1 hf1 hR3 HCU p0 p1 p2 p3 p4 p5 p6 q0 q1 q2 q3 q4 q5 q6 hgl
        by_cases hr0 : r < 0
        case neg =>
          have HE : Hid (OJ W1 lo g n cap l3 ∧ Below lo W W1 ∧ insO c a (b - (k + 1)) (k + 1) l3 = R) := by
            refine ⟨HO.out.1, HO.out.2.1, ?_⟩
            have := HO.out.2.2
            rw [HIJ.out] at this
            unfold insJ at this
            rw [if_neg (fun e => hr0 (by rw [HX.out.2.2, HX.out.1, HX.out.2.1, HIJ.out]; exact e.2))] at this
            exact this
          clear HO HX HIJ
          go_wp2
          go_roundw
          case rel => exact ⟨k + 1, l3, by omega, Or.inl (by omega), by go_num, HE.out⟩
          case measure => simp [intOf]; omega
        have HE : Hid (insO c a (b - (k + 1)) (k + 1) (insJ c a i (sw l3 j i)) = R) := by
          have := HO.out.2.2
          rw [HIJ.out] at this
          unfold insJ at this
          rw [if_pos ⟨by have := HIJ.out; omega, by rw [HX.out.2.2, HX.out.1, HX.out.2.1, HIJ.out] at hr0; exact hr0⟩] at this
          rw [HIJ.out]; exact this
        obtain ⟨p0, p1, p2, p3, p4, p5, p6⟩ := HO.out.1.at (j := i) (by omega)
        obtain ⟨q0, q1, q2, q3, q4, q5, q6⟩ := HO.out.1.at (j := j) hin
        rw [← HX.out.1] at q0 q1 q2 q3 q4 q5 q6
        rw [← HX.out.2.1] at p0 p1 p2 p3 p4 p5 p6
        have hgl := HO.out.1.lt.2
        have fp0 := HO.out.1.fr (i * 7)
        have fq0 := HO.out.1.fr (j * 7)
        have fp1 := HO.out.1.fr (i * 7 + 1)
        have fq1 := HO.out.1.fr (j * 7 + 1)
        have fp2 := HO.out.1.fr (i * 7 + 2)
        have fq2 := HO.out.1.fr (j * 7 + 2)
        have fp3 := HO.out.1.fr (i * 7 + 3)
        have fq3 := HO.out.1.fr (j * 7 + 3)
        have fp4 := HO.out.1.fr (i * 7 + 4)
        have fq4 := HO.out.1.fr (j * 7 + 4)
        have fp5 := HO.out.1.fr (i * 7 + 5)
        have fq5 := HO.out.1.fr (j * 7 + 5)
        have fp6 := HO.out.1.fr (i * 7 + 6)
        have fq6 := HO.out.1.fr (j * 7 + 6)
        go_wp2
        go_region
        have HSW : Hid (OJ (((((((((((((((W1.setCell ⟨g, j * 7, none⟩ (.int .i64 y.id)).setCell ⟨g, j * 7 + 1, none⟩ (.int .i64 y.co)).setCell ⟨g, j * 7 + 2, none⟩ (.int .i64 y.ti)).setCell ⟨g, j * 7 + 3, none⟩ (.int .i64 y.se)).setCell ⟨g, j * 7 + 4, none⟩ (.int .i64 y.du)).setCell ⟨g, j * 7 + 5, none⟩ (.int .i64 y.we)).setCell ⟨g, j * 7 + 6, none⟩ (.int .i64 y.ki)).setCell ⟨g, i * 7, none⟩ (.int .i64 x.id)).setCell ⟨g, i * 7 + 1, none⟩ (.int .i64 x.co)).setCell ⟨g, i * 7 + 2, none⟩ (.int .i64 x.ti)).setCell ⟨g, i * 7 + 3, none⟩ (.int .i64 x.se)).setCell ⟨g, i * 7 + 4, none⟩ (.int .i64 x.du)).setCell ⟨g, i * 7 + 5, none⟩ (.int .i64 x.we)).setCell ⟨g, i * 7 + 6, none⟩ (.int .i64 x.ki))).drew lo g n cap (sw l3 j i) ∧ Below lo W (((((((((((((((W1.setCell ⟨g, j * 7, none⟩ (.int .i64 y.id)).setCell ⟨g, j * 7 + 1, none⟩ (.int .i64 y.co)).setCell ⟨g, j * 7 + 2, none⟩ (.int .i64 y.ti)).setCell ⟨g, j * 7 + 3, none⟩ (.int .i64 y.se)).setCell ⟨g, j * 7 + 4, none⟩ (.int .i64 y.du)).setCell ⟨g, j * 7 + 5, none⟩ (.int .i64 y.we)).setCell ⟨g, j * 7 + 6, none⟩ (.int .i64 y.ki)).setCell ⟨g, i * 7, none⟩ (.int .i64 x.id)).setCell ⟨g, i * 7 + 1, none⟩ (.int .i64 x.co)).setCell ⟨g, i * 7 + 2, none⟩ (.int .i64 x.ti)).setCell ⟨g, i * 7 + 3, none⟩ (.int .i64 x.se)).setCell ⟨g, i * 7 + 4, none⟩ (.int .i64 x.du)).setCell ⟨g, i * 7 + 5, none⟩ (.int .i64 x.we)).setCell ⟨g, i * 7 + 6, none⟩ (.int .i64 x.ki))).drew ∧ insO c a (b - (k + 1)) (k + 1) (insJ c a i (sw l3 j i)) = R) := by
          obtain ⟨s1, s2⟩ := HO.out.1.swap hin (show i < n by omega) HX.out.2.1 HX.out.1
          exact ⟨s1.drew, Below.drew (grown_lo HO.out.2.1 s2 HL.out.1 (by have := HO.out.1.lt; omega)), HE.out⟩
        clear HO HE p0 p1 p2 p3 p4 p5 p6 q0 q1 q2 q3 q4 q5 q6 hgl fp0 fq0 fp1 fq1 fp2 fq2 fp3 fq3 fp4 fq4 fp5 fq5 fp6 fq6
        generalize (((((((((((((((W1.setCell ⟨g, j * 7, none⟩ (.int .i64 y.id)).setCell ⟨g, j * 7 + 1, none⟩ (.int .i64 y.co)).setCell ⟨g, j * 7 + 2, none⟩ (.int .i64 y.ti)).setCell ⟨g, j * 7 + 3, none⟩ (.int .i64 y.se)).setCell ⟨g, j * 7 + 4, none⟩ (.int .i64 y.du)).setCell ⟨g, j * 7 + 5, none⟩ (.int .i64 y.we)).setCell ⟨g, j * 7 + 6, none⟩ (.int .i64 y.ki)).setCell ⟨g, i * 7, none⟩ (.int .i64 x.id)).setCell ⟨g, i * 7 + 1, none⟩ (.int .i64 x.co)).setCell ⟨g, i * 7 + 2, none⟩ (.int .i64 x.ti)).setCell ⟨g, i * 7 + 3, none⟩ (.int .i64 x.se)).setCell ⟨g, i * 7 + 4, none⟩ (.int .i64 x.du)).setCell ⟨g, i * 7 + 5, none⟩ (.int .i64 x.we)).setCell ⟨g, i * 7 + 6, none⟩ (.int .i64 x.ki))).drew = W2 at HSW ⊢
        go_wp2
        go_roundw
        case rel => exact ⟨i, sw l3 j i, by have := HIJ.out; omega, by have := HIJ.out; omega, by go_num, HSW.out⟩
        case measure => have := HIJ.out; simp [intOf]; omega
    · have HE : Hid (OJ wr lo g n cap R ∧ Below lo W wr) := by
        have e := hR.out.2.2
        rw [show b - k = 0 by omega] at e
        have e2 : l2 = R := e
        rw [← e2]; exact ⟨hR.out.1, hR.out.2.1⟩
      clear hR
      go_wp2
      go_returns
      exact ⟨rfl, HE.out⟩

end Go.Proofs.Ytjbghflphngnkaa
