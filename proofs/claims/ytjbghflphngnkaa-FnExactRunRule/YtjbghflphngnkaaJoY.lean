/- Proved here: symMergeCmpFunc at jobs: symF. -/
import Derived.Test.YtjbghflphngnkaaJoR
import Derived.Deep.Cut
namespace Go.Proofs.Ytjbghflphngnkaa
open Go.RowKit
set_option linter.unusedVariables false
set_option linter.unusedSimpArgs false


set_option maxRecDepth 10000 in
set_option maxHeartbeats 12800000 in
theorem sym_one {W w : World} {lo p g n cap : Nat} {c : Jb → Jb → Int} {l : List Jb} (a m b : Nat) (ha : m = a + 1) (hm : m < b) (hb : b ≤ n) (hn : n ≤ 1000) (hC : Cmp W lo p c) (ho : OJ w lo g n cap l) (hW : Below lo W w) :
    Calls Try.prog 94 #[.slice (some ⟨g, 0, none⟩) n cap, .int .i64 a, .int .i64 m, .int .i64 b, .func (Fn.func 81) #[] #[.pointer (some ⟨p, 0, none⟩)]] w fun e w' => e = .returned (.tuple #[]) ∧ OJ w' lo g n cap (shU (bsF (fun h => decide (c (jA l h) (jA l a) < 0)) b m b - 1 - a) a l) ∧ Below lo W w' := by
  have HL : Hid (lo ≤ g ∧ l.length = n) := ⟨ho.lt.1, ho.len.symm⟩
  obtain ⟨K, hK⟩ : ∃ K, K = bsF (fun h => decide (c (jA l h) (jA l a) < 0)) b m b := ⟨_, rfl⟩
  have HK : Hid (bsF (fun h => decide (c (jA l h) (jA l a) < 0)) b m b = K ∧ m ≤ K ∧ K ≤ b) := by
    rw [hK]; exact ⟨rfl, bsF_bnd _ _ _ _ (by omega)⟩
  obtain ⟨R, hR⟩ : ∃ R, R = shU (K - 1 - a) a l := ⟨_, rfl⟩
  have HS : Hid (OJ w lo g n cap l ∧ Below lo W w) := ⟨ho, hW⟩
  have HR : Hid (shU (K - 1 - a) a l = R) := hR.symm
  have HC : Hid (Cmp W lo p c) := hC
  rw [← hK, ← hR]
  have e1 : (m : Int) - (a : Int) = 1 := by omega
  have HMA : Hid (m = a + 1) := ha
  clear ho hW hR hK hC ha
  go_enter Try.func94, Try.ntmps94
  go_wp2
  go_loopw [10, 11, 12] (fun u v _ wr => ∃ (i j q : Nat), u = .int .i64 (i : Nat) ∧ v = .int .i64 (j : Nat) ∧ m ≤ i ∧ i ≤ j ∧ j ≤ b ∧ Hid (j - i ≤ q ∧ OJ wr lo g n cap l ∧ Below lo W wr ∧ bsF (fun h => decide (c (jA l h) (jA l a) < 0)) q i j = K)) (fun u v _ _ => (intOf v).toNat - (intOf u).toNat)
  case atStart => exact ⟨m, b, b, by go_num, by go_num, Nat.le_refl _, by omega, Nat.le_refl _, by omega, HS.out.1, HS.out.2, HK.out.1⟩
  case round =>
    clear HS
    obtain ⟨i, j, q, rfl, rfl, h1, h2, h3, hR⟩ := hrel
    by_cases hlt : i < j
    · obtain ⟨q, rfl⟩ : ∃ r, q = r + 1 := ⟨q - 1, by have := hR.out.1; omega⟩
      have b1 : (i : Int) < (j : Int) := by omega
      have b2 : (j : Int) ≤ 1000 := by omega
      have b3 : (0 : Int) ≤ (i : Int) := by omega
      obtain ⟨h, hh⟩ : ∃ h, h = (i + j) / 2 := ⟨_, rfl⟩
      have b4 : ((i : Int) + (j : Int)) / 2 = (h : Int) := by omega
      have b5 : (h : Int) < (n : Int) := by omega
      have b6 : (0 : Int) ≤ (h : Int) := by omega
      have b7 : (a : Int) < (n : Int) := by omega
      obtain ⟨hs, hhs⟩ : ∃ x, x = h + 1 := ⟨_, rfl⟩
      have HHS : Hid (hs = h + 1) := hhs
      have b8 : (h : Int) + 1 = (hs : Int) := by omega
      clear hhs
      have hhn : h < n ∧ i ≤ h ∧ h < j := by omega
      have HB : Hid (bsF (fun h => decide (c (jA l h) (jA l a) < 0)) (q + 1) i j = K) := hR.out.2.2.2
      unfold bsF at HB
      obtain ⟨x, hx⟩ : ∃ x, x = jA l h := ⟨_, rfl⟩
      obtain ⟨y, hy⟩ : ∃ y, y = jA l a := ⟨_, rfl⟩
      obtain ⟨r, hr⟩ : ∃ r, r = c x y := ⟨_, rfl⟩
      have HP : Hid ((r < 0 → bsF (fun h => decide (c (jA l h) (jA l a) < 0)) q (h + 1) j = K) ∧ (¬ r < 0 → bsF (fun h => decide (c (jA l h) (jA l a) < 0)) q i h = K)) := by
        have e := HB.out
        rw [if_pos hlt, ← hh] at e
        have e1 : decide (c (jA l h) (jA l a) < 0) = decide (r < 0) := by rw [hr, hx, hy]
        simp only [e1] at e
        refine ⟨fun h9 => ?_, fun h9 => ?_⟩
        · rw [if_pos (decide_eq_true h9)] at e; exact e
        · rw [if_neg (by rw [decide_eq_false h9]; decide)] at e; exact e
      obtain ⟨q0, q1, q2, q3, q4, q5, q6⟩ := hR.out.2.1.at hhn.1
      obtain ⟨p0, p1, p2, p3, p4, p5, p6⟩ := hR.out.2.1.at (j := a) (by omega)
      rw [← hx] at q0 q1 q2 q3 q4 q5 q6
      rw [← hy] at p0 p1 p2 p3 p4 p5 p6
      have hgl := hR.out.2.1.lt.2
      have HCU : Hid (∀ X : Und wr.heap.size wr, Calls Try.prog 81 #[.agg #[.int .i64 x.id, .int .i64 x.co, .int .i64 x.ti, .int .i64 x.se, .int .i64 x.du, .int .i64 x.we, .int .i64 x.ki], .agg #[.int .i64 y.id, .int .i64 y.co, .int .i64 y.ti, .int .i64 y.se, .int .i64 y.du, .int .i64 y.we, .int .i64 y.ki], .pointer (some ⟨p, 0, none⟩)] X.W fun e w' => e = .returned (.int .i64 r) ∧ Below X.W.heap.size X.W w') := fun X => by
        rw [hr]; exact HC.out x y X.W (hR.out.2.2.1.trans (X.below.mono (by have := hR.out.2.1.lt; omega)))
      clear hh hx hy hr HB
      go_wp2_with (fail)
      (refine wp_region_und (by kernel_rfl) (by kernel_rfl) (fun hund => ?_); (repeat (go_big_quiet_step (first | (go_at_call 81; with_reducible refine und_call ?_ (HCU.out _); exact Nat.le_refl _)))); with_reducible refine wpQuiet_nil ?_; clear hund; intro W1 hb1; obtain ⟨hc1, hf1⟩ := undcell hb1)
      have HO : Hid (OJ W1 lo g n cap l ∧ Below lo W W1 ∧ j - i ≤ q + 1) := ⟨hR.out.2.1.below hb1, hR.out.2.2.1.trans (hb1.mono (by have := hR.out.2.1.lt; omega)), hR.out.1⟩
      clear hb1 hc1 hf1 hR HCU p0 p1 p2 p3 p4 p5 p6 q0 q1 q2 q3 q4 q5 q6 hgl
      by_cases hr0 : r < 0
      · have HN : Hid (bsF (fun h => decide (c (jA l h) (jA l a) < 0)) q (h + 1) j = K) := HP.out.1 hr0
        clear HP
        go_wp2
        go_roundw
        case rel => exact ⟨hs, j, q, by go_num, rfl, by have := HHS.out; omega, by have := HHS.out; omega, h3, by have := HO.out.2.2; have := HHS.out; omega, HO.out.1, HO.out.2.1, by rw [HHS.out]; exact HN.out⟩
        case measure => have := HHS.out; simp [intOf]; omega
      · have HN : Hid (bsF (fun h => decide (c (jA l h) (jA l a) < 0)) q i h = K) := HP.out.2 (by omega)
        clear HP
        go_wp2
        go_roundw
        case rel => exact ⟨i, h, q, rfl, by go_num, h1, by omega, by omega, by have := HO.out.2.2; omega, HO.out.1, HO.out.2.1, HN.out⟩
        case measure => simp [intOf]; omega
    · obtain rfl : i = j := by omega
      have HE : Hid (K = i ∧ OJ wr lo g n cap l ∧ Below lo W wr) := by
        refine ⟨?_, hR.out.2.1, hR.out.2.2.1⟩
        rw [← hR.out.2.2.2]
        cases q with
        | zero => rfl
        | succ q => unfold bsF; rw [if_neg (by omega)]
      have HSH : Hid (OJ wr lo g n cap l ∧ Below lo W wr ∧ shU (i - 1 - a) a l = R) := ⟨HE.out.2.1, HE.out.2.2, by rw [← HE.out.1]; exact HR.out⟩
      have b1 : (i : Int) - 1 = ((i - 1 : Nat) : Int) := by have := HMA.out; omega
      have hai : a ≤ i - 1 := by have := HMA.out; omega
      clear hR HE HR HK
      go_wp2
      go_loopw [13] (fun u w3 => ∃ (k : Nat) (l3 : List Jb), a ≤ k ∧ k ≤ i - 1 ∧ u = .int .i64 (k : Nat) ∧ Hid (OJ w3 lo g n cap l3 ∧ Below lo W w3 ∧ shU (i - 1 - k) k l3 = R)) (fun u _ => i - (intOf u).toNat)
      case atStart => exact ⟨a, l, Nat.le_refl _, hai, rfl, HSH.out⟩
      case round =>
        clear HSH
        obtain ⟨k, l3, hk1, hk2, rfl, hR3⟩ := hrel
        by_cases hlt2 : k < i - 1
        · have b2 : (k : Int) < ((i - 1 : Nat) : Int) := by omega
          obtain ⟨k1, hk1'⟩ : ∃ k1, k1 = k + 1 := ⟨_, rfl⟩
          have b3 : (k : Int) + 1 = (k1 : Int) := by omega
          have HR2 : Hid (OJ wr lo g n cap l3 ∧ Below lo W wr ∧ shU (i - 1 - k1) k1 (sw l3 k k1) = R) := by
            refine ⟨hR3.out.1, hR3.out.2.1, ?_⟩
            have := hR3.out.2.2
            rw [show i - 1 - k = (i - 1 - k1) + 1 by omega] at this
            rw [hk1']
            rw [hk1'] at this
            exact this
          have hkn : k < n := by omega
          have hk1n : k1 < n := by omega
          have b4 : (k : Int) < (n : Int) := by omega
          have b5 : (k1 : Int) < (n : Int) := by omega
          have b6 : k < k1 := by omega
          have b8 : (0 : Int) ≤ (k : Int) := by omega
          have b9 : (0 : Int) ≤ (k1 : Int) := by omega
          obtain ⟨x, hx⟩ : ∃ x, x = jA l3 k1 := ⟨_, rfl⟩
          obtain ⟨y, hy⟩ : ∃ y, y = jA l3 k := ⟨_, rfl⟩
          have HX : Hid (x = jA l3 k1 ∧ y = jA l3 k) := ⟨hx, hy⟩
          have HK1 : Hid (k1 = k + 1) := hk1'
          clear hR3 hx hy hk1'
          obtain ⟨p0, p1, p2, p3, p4, p5, p6⟩ := HR2.out.1.at hkn
          obtain ⟨q0, q1, q2, q3, q4, q5, q6⟩ := HR2.out.1.at hk1n
          rw [← HX.out.1] at q0 q1 q2 q3 q4 q5 q6
          rw [← HX.out.2] at p0 p1 p2 p3 p4 p5 p6
          have hgl := HR2.out.1.lt.2
          have fp0 := HR2.out.1.fr (k * 7)
          have fq0 := HR2.out.1.fr (k1 * 7)
          have fp1 := HR2.out.1.fr (k * 7 + 1)
          have fq1 := HR2.out.1.fr (k1 * 7 + 1)
          have fp2 := HR2.out.1.fr (k * 7 + 2)
          have fq2 := HR2.out.1.fr (k1 * 7 + 2)
          have fp3 := HR2.out.1.fr (k * 7 + 3)
          have fq3 := HR2.out.1.fr (k1 * 7 + 3)
          have fp4 := HR2.out.1.fr (k * 7 + 4)
          have fq4 := HR2.out.1.fr (k1 * 7 + 4)
          have fp5 := HR2.out.1.fr (k * 7 + 5)
          have fq5 := HR2.out.1.fr (k1 * 7 + 5)
          have fp6 := HR2.out.1.fr (k * 7 + 6)
          have fq6 := HR2.out.1.fr (k1 * 7 + 6)
          go_wp2
          go_region
          have HSW : Hid (OJ (((((((((((((((wr.setCell ⟨g, k * 7, none⟩ (.int .i64 x.id)).setCell ⟨g, k * 7 + 1, none⟩ (.int .i64 x.co)).setCell ⟨g, k * 7 + 2, none⟩ (.int .i64 x.ti)).setCell ⟨g, k * 7 + 3, none⟩ (.int .i64 x.se)).setCell ⟨g, k * 7 + 4, none⟩ (.int .i64 x.du)).setCell ⟨g, k * 7 + 5, none⟩ (.int .i64 x.we)).setCell ⟨g, k * 7 + 6, none⟩ (.int .i64 x.ki)).setCell ⟨g, k1 * 7, none⟩ (.int .i64 y.id)).setCell ⟨g, k1 * 7 + 1, none⟩ (.int .i64 y.co)).setCell ⟨g, k1 * 7 + 2, none⟩ (.int .i64 y.ti)).setCell ⟨g, k1 * 7 + 3, none⟩ (.int .i64 y.se)).setCell ⟨g, k1 * 7 + 4, none⟩ (.int .i64 y.du)).setCell ⟨g, k1 * 7 + 5, none⟩ (.int .i64 y.we)).setCell ⟨g, k1 * 7 + 6, none⟩ (.int .i64 y.ki))).drew lo g n cap (sw l3 k k1) ∧ Below lo W (((((((((((((((wr.setCell ⟨g, k * 7, none⟩ (.int .i64 x.id)).setCell ⟨g, k * 7 + 1, none⟩ (.int .i64 x.co)).setCell ⟨g, k * 7 + 2, none⟩ (.int .i64 x.ti)).setCell ⟨g, k * 7 + 3, none⟩ (.int .i64 x.se)).setCell ⟨g, k * 7 + 4, none⟩ (.int .i64 x.du)).setCell ⟨g, k * 7 + 5, none⟩ (.int .i64 x.we)).setCell ⟨g, k * 7 + 6, none⟩ (.int .i64 x.ki)).setCell ⟨g, k1 * 7, none⟩ (.int .i64 y.id)).setCell ⟨g, k1 * 7 + 1, none⟩ (.int .i64 y.co)).setCell ⟨g, k1 * 7 + 2, none⟩ (.int .i64 y.ti)).setCell ⟨g, k1 * 7 + 3, none⟩ (.int .i64 y.se)).setCell ⟨g, k1 * 7 + 4, none⟩ (.int .i64 y.du)).setCell ⟨g, k1 * 7 + 5, none⟩ (.int .i64 y.we)).setCell ⟨g, k1 * 7 + 6, none⟩ (.int .i64 y.ki))).drew ∧ shU (i - 1 - k1) k1 (sw l3 k k1) = R) := by
            obtain ⟨s1, s2⟩ := HR2.out.1.swap hkn hk1n HX.out.1 HX.out.2
            exact ⟨s1.drew, Below.drew (grown_lo HR2.out.2.1 s2 HL.out.1 (by have := HR2.out.1.lt; omega)), HR2.out.2.2⟩
          clear HR2 p0 p1 p2 p3 p4 p5 p6 q0 q1 q2 q3 q4 q5 q6 hgl fp0 fq0 fp1 fq1 fp2 fq2 fp3 fq3 fp4 fq4 fp5 fq5 fp6 fq6
          generalize (((((((((((((((wr.setCell ⟨g, k * 7, none⟩ (.int .i64 x.id)).setCell ⟨g, k * 7 + 1, none⟩ (.int .i64 x.co)).setCell ⟨g, k * 7 + 2, none⟩ (.int .i64 x.ti)).setCell ⟨g, k * 7 + 3, none⟩ (.int .i64 x.se)).setCell ⟨g, k * 7 + 4, none⟩ (.int .i64 x.du)).setCell ⟨g, k * 7 + 5, none⟩ (.int .i64 x.we)).setCell ⟨g, k * 7 + 6, none⟩ (.int .i64 x.ki)).setCell ⟨g, k1 * 7, none⟩ (.int .i64 y.id)).setCell ⟨g, k1 * 7 + 1, none⟩ (.int .i64 y.co)).setCell ⟨g, k1 * 7 + 2, none⟩ (.int .i64 y.ti)).setCell ⟨g, k1 * 7 + 3, none⟩ (.int .i64 y.se)).setCell ⟨g, k1 * 7 + 4, none⟩ (.int .i64 y.du)).setCell ⟨g, k1 * 7 + 5, none⟩ (.int .i64 y.we)).setCell ⟨g, k1 * 7 + 6, none⟩ (.int .i64 y.ki))).drew = W2 at HSW ⊢
          go_wp2
          go_roundw
          case rel => exact ⟨k1, sw l3 k k1, by have := HK1.out; omega, by have := HK1.out; omega, by go_num, HSW.out⟩
          case measure => have := HK1.out; simp [intOf]; omega
        · obtain rfl : k = i - 1 := by omega
          have HE : Hid (OJ wr lo g n cap R ∧ Below lo W wr) := by
            have e := hR3.out.2.2
            rw [Nat.sub_self] at e
            have e2 : l3 = R := e
            rw [← e2]; exact ⟨hR3.out.1, hR3.out.2.1⟩
          clear hR3
          go_wp2
          go_returns
          exact ⟨rfl, HE.out⟩

end Go.Proofs.Ytjbghflphngnkaa
