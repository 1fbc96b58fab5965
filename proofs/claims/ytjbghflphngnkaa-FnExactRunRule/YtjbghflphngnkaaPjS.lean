/- Proved here: l22Ahead, l22Pick, l22Rule, PickJob of the model. -/
import Derived.Test.YtjbghflphngnkaaNwK
import Derived.Test.YtjbghflphngnkaaDjS
namespace Go.Proofs.Ytjbghflphngnkaa
open Go.RowKit
set_option linter.unusedVariables false
set_option linter.unusedSimpArgs false


set_option maxRecDepth 10000 in
set_option maxHeartbeats 6400000 in
theorem spec_ah (rule now : Int) (hr : 1 ≤ rule ∧ rule ≤ 4) (x y : Jb) (W : World) :
    Calls Try.prog 72 #[.agg #[.int .i64 x.id, .int .i64 x.co, .int .i64 x.ti, .int .i64 x.se, .int .i64 x.du, .int .i64 x.we, .int .i64 x.ki], .agg #[.int .i64 y.id, .int .i64 y.co, .int .i64 y.ti, .int .i64 y.se, .int .i64 y.du, .int .i64 y.we, .int .i64 y.ki], .int .i64 rule, .int .i64 now] W fun e w' => e = .returned (.int .i64 (rC rule now x y)) ∧ Below W.heap.size W w' := by
  rcases (by omega : rule = 1 ∨ rule = 2 ∨ rule = 3 ∨ rule = 4) with rfl | rfl | rfl | rfl
  · obtain ⟨p, hp⟩ : ∃ p, p = x.co := ⟨_, rfl⟩
    obtain ⟨q, hq⟩ : ∃ p, p = y.co := ⟨_, rfl⟩
    have HR : Hid (rC 1 now x y = cmpI p q) := by rw [hp, hq]; rfl
    rcases (by omega : p < q ∨ q < p ∨ p = q) with h | h | h
    · have HE : Hid (rC 1 now x y = -1) := by unfold Hid; rw [HR.out]; exact if_pos h
      rw [hp, hq] at h
      clear hp hq HR
      go_enter Try.func72, Try.ntmps72
      go_wp2
      go_returns
      exact ⟨by rw [HE.out]; rfl, by (repeat' (first | (with_reducible exact Below.refl _ _) | (with_reducible assumption) | (with_reducible refine Below.setCell ?_ ?_ _) | (with_reducible refine Below.alloc ?_ ?_ _) | (with_reducible refine below_drewN ?_ _) | (with_reducible refine Below.drew ?_) | (with_reducible exact Nat.le_refl _) | omega | (simp; done) | (simp; omega)))⟩
    · have HE : Hid (rC 1 now x y = 1) := by unfold Hid; rw [HR.out, cmpI, if_neg (by omega), if_pos h]
      have h' : ¬ p < q := by omega
      rw [hp, hq] at h h'
      clear hp hq HR
      go_enter Try.func72, Try.ntmps72
      go_wp2
      go_returns
      exact ⟨by rw [HE.out]; rfl, by (repeat' (first | (with_reducible exact Below.refl _ _) | (with_reducible assumption) | (with_reducible refine Below.setCell ?_ ?_ _) | (with_reducible refine Below.alloc ?_ ?_ _) | (with_reducible refine below_drewN ?_ _) | (with_reducible refine Below.drew ?_) | (with_reducible exact Nat.le_refl _) | omega | (simp; done) | (simp; omega)))⟩
    · have HE : Hid (rC 1 now x y = 0) := by unfold Hid; rw [HR.out, cmpI, if_neg (by omega), if_neg (by omega)]
      have h' : ¬ p < q := by omega
      have h'' : ¬ q < p := by omega
      rw [hp, hq] at h' h''
      clear h hp hq HR
      go_enter Try.func72, Try.ntmps72
      go_wp2
      go_returns
      exact ⟨by rw [HE.out]; rfl, by (repeat' (first | (with_reducible exact Below.refl _ _) | (with_reducible assumption) | (with_reducible refine Below.setCell ?_ ?_ _) | (with_reducible refine Below.alloc ?_ ?_ _) | (with_reducible refine below_drewN ?_ _) | (with_reducible refine Below.drew ?_) | (with_reducible exact Nat.le_refl _) | omega | (simp; done) | (simp; omega)))⟩
  · obtain ⟨p, hp⟩ : ∃ p, p = x.du := ⟨_, rfl⟩
    obtain ⟨q, hq⟩ : ∃ p, p = y.du := ⟨_, rfl⟩
    have HR : Hid (rC 2 now x y = cmpI p q) := by rw [hp, hq]; rfl
    rcases (by omega : p < q ∨ q < p ∨ p = q) with h | h | h
    · have HE : Hid (rC 2 now x y = -1) := by unfold Hid; rw [HR.out]; exact if_pos h
      rw [hp, hq] at h
      clear hp hq HR
      go_enter Try.func72, Try.ntmps72
      go_wp2
      go_returns
      exact ⟨by rw [HE.out]; rfl, by (repeat' (first | (with_reducible exact Below.refl _ _) | (with_reducible assumption) | (with_reducible refine Below.setCell ?_ ?_ _) | (with_reducible refine Below.alloc ?_ ?_ _) | (with_reducible refine below_drewN ?_ _) | (with_reducible refine Below.drew ?_) | (with_reducible exact Nat.le_refl _) | omega | (simp; done) | (simp; omega)))⟩
    · have HE : Hid (rC 2 now x y = 1) := by unfold Hid; rw [HR.out, cmpI, if_neg (by omega), if_pos h]
      have h' : ¬ p < q := by omega
      rw [hp, hq] at h h'
      clear hp hq HR
      go_enter Try.func72, Try.ntmps72
      go_wp2
      go_returns
      exact ⟨by rw [HE.out]; rfl, by (repeat' (first | (with_reducible exact Below.refl _ _) | (with_reducible assumption) | (with_reducible refine Below.setCell ?_ ?_ _) | (with_reducible refine Below.alloc ?_ ?_ _) | (with_reducible refine below_drewN ?_ _) | (with_reducible refine Below.drew ?_) | (with_reducible exact Nat.le_refl _) | omega | (simp; done) | (simp; omega)))⟩
    · have HE : Hid (rC 2 now x y = 0) := by unfold Hid; rw [HR.out, cmpI, if_neg (by omega), if_neg (by omega)]
      have h' : ¬ p < q := by omega
      have h'' : ¬ q < p := by omega
      rw [hp, hq] at h' h''
      clear h hp hq HR
      go_enter Try.func72, Try.ntmps72
      go_wp2
      go_returns
      exact ⟨by rw [HE.out]; rfl, by (repeat' (first | (with_reducible exact Below.refl _ _) | (with_reducible assumption) | (with_reducible refine Below.setCell ?_ ?_ _) | (with_reducible refine Below.alloc ?_ ?_ _) | (with_reducible refine below_drewN ?_ _) | (with_reducible refine Below.drew ?_) | (with_reducible exact Nat.le_refl _) | omega | (simp; done) | (simp; omega)))⟩
  · obtain ⟨p, hp⟩ : ∃ p, p = x.ti := ⟨_, rfl⟩
    obtain ⟨q, hq⟩ : ∃ p, p = y.ti := ⟨_, rfl⟩
    have HR : Hid (rC 3 now x y = cmpI p q) := by rw [hp, hq]; rfl
    rcases (by omega : p < q ∨ q < p ∨ p = q) with h | h | h
    · have HE : Hid (rC 3 now x y = -1) := by unfold Hid; rw [HR.out]; exact if_pos h
      rw [hp, hq] at h
      clear hp hq HR
      go_enter Try.func72, Try.ntmps72
      go_wp2
      go_returns
      exact ⟨by rw [HE.out]; rfl, by (repeat' (first | (with_reducible exact Below.refl _ _) | (with_reducible assumption) | (with_reducible refine Below.setCell ?_ ?_ _) | (with_reducible refine Below.alloc ?_ ?_ _) | (with_reducible refine below_drewN ?_ _) | (with_reducible refine Below.drew ?_) | (with_reducible exact Nat.le_refl _) | omega | (simp; done) | (simp; omega)))⟩
    · have HE : Hid (rC 3 now x y = 1) := by unfold Hid; rw [HR.out, cmpI, if_neg (by omega), if_pos h]
      have h' : ¬ p < q := by omega
      rw [hp, hq] at h h'
      clear hp hq HR
      go_enter Try.func72, Try.ntmps72
      go_wp2
      go_returns
      exact ⟨by rw [HE.out]; rfl, by (repeat' (first | (with_reducible exact Below.refl _ _) | (with_reducible assumption) | (with_reducible refine Below.setCell ?_ ?_ _) | (with_reducible refine Below.alloc ?_ ?_ _) | (with_reducible refine below_drewN ?_ _) | (with_reducible refine Below.drew ?_) | (with_reducible exact Nat.le_refl _) | omega | (simp; done) | (simp; omega)))⟩
    · have HE : Hid (rC 3 now x y = 0) := by unfold Hid; rw [HR.out, cmpI, if_neg (by omega), if_neg (by omega)]
      have h' : ¬ p < q := by omega
      have h'' : ¬ q < p := by omega
      rw [hp, hq] at h' h''
      clear h hp hq HR
      go_enter Try.func72, Try.ntmps72
      go_wp2
      go_returns
      exact ⟨by rw [HE.out]; rfl, by (repeat' (first | (with_reducible exact Below.refl _ _) | (with_reducible assumption) | (with_reducible refine Below.setCell ?_ ?_ _) | (with_reducible refine Below.alloc ?_ ?_ _) | (with_reducible refine below_drewN ?_ _) | (with_reducible refine Below.drew ?_) | (with_reducible exact Nat.le_refl _) | omega | (simp; done) | (simp; omega)))⟩
  · obtain ⟨p, hp⟩ : ∃ p, p = wrap64 (wrap64 (x.du - now) * y.ti) := ⟨_, rfl⟩
    obtain ⟨q, hq⟩ : ∃ p, p = wrap64 (wrap64 (y.du - now) * x.ti) := ⟨_, rfl⟩
    have HR : Hid (rC 4 now x y = cmpI p q) := by rw [hp, hq]; rfl
    rcases (by omega : p < q ∨ q < p ∨ p = q) with h | h | h
    · have HE : Hid (rC 4 now x y = -1) := by unfold Hid; rw [HR.out]; exact if_pos h
      rw [hp, hq] at h
      clear hp hq HR
      go_enter Try.func72, Try.ntmps72
      go_wp2
      go_returns
      exact ⟨by rw [HE.out]; rfl, by (repeat' (first | (with_reducible exact Below.refl _ _) | (with_reducible assumption) | (with_reducible refine Below.setCell ?_ ?_ _) | (with_reducible refine Below.alloc ?_ ?_ _) | (with_reducible refine below_drewN ?_ _) | (with_reducible refine Below.drew ?_) | (with_reducible exact Nat.le_refl _) | omega | (simp; done) | (simp; omega)))⟩
    · have HE : Hid (rC 4 now x y = 1) := by unfold Hid; rw [HR.out, cmpI, if_neg (by omega), if_pos h]
      have h' : ¬ p < q := by omega
      rw [hp, hq] at h h'
      clear hp hq HR
      go_enter Try.func72, Try.ntmps72
      go_wp2
      go_returns
      exact ⟨by rw [HE.out]; rfl, by (repeat' (first | (with_reducible exact Below.refl _ _) | (with_reducible assumption) | (with_reducible refine Below.setCell ?_ ?_ _) | (with_reducible refine Below.alloc ?_ ?_ _) | (with_reducible refine below_drewN ?_ _) | (with_reducible refine Below.drew ?_) | (with_reducible exact Nat.le_refl _) | omega | (simp; done) | (simp; omega)))⟩
    · have HE : Hid (rC 4 now x y = 0) := by unfold Hid; rw [HR.out, cmpI, if_neg (by omega), if_neg (by omega)]
      have h' : ¬ p < q := by omega
      have h'' : ¬ q < p := by omega
      rw [hp, hq] at h' h''
      clear h hp hq HR
      go_enter Try.func72, Try.ntmps72
      go_wp2
      go_returns
      exact ⟨by rw [HE.out]; rfl, by (repeat' (first | (with_reducible exact Below.refl _ _) | (with_reducible assumption) | (with_reducible refine Below.setCell ?_ ?_ _) | (with_reducible refine Below.alloc ?_ ?_ _) | (with_reducible refine below_drewN ?_ _) | (with_reducible refine Below.drew ?_) | (with_reducible exact Nat.le_refl _) | omega | (simp; done) | (simp; omega)))⟩

def obK : Option Nat → Int
  | none => -1
  | some b => (b : Int)
set_option maxRecDepth 10000 in
set_option maxHeartbeats 12800000 in
theorem spec_pick (rule now : Int) (hr : 1 ≤ rule ∧ rule ≤ 4) {W : World} {v : Value} {s : List Jb} (hn : s.length ≤ 1000) (hs : RG 7 jbC W v s) :
    Calls Try.prog 31 #[v, .int .i64 rule, .int .i64 now] W fun e w' => e = .returned (.int .i64 (obK (bst (orC rule now) now s s.length))) ∧ Below W.heap.size W w' := by
  obtain ⟨a, c, rfl⟩ := hs.form
  obtain ⟨n, hnn⟩ : ∃ n, n = s.length := ⟨_, rfl⟩
  obtain ⟨R, hR⟩ : ∃ R, R = obK (bst (orC rule now) now s n) := ⟨_, rfl⟩
  rw [← hnn] at hn hs ⊢
  rw [← hR]
  have H : Hid (RG 7 jbC W (.slice a n c) s ∧ n = s.length ∧ R = obK (bst (orC rule now) now s n)) := ⟨hs, hnn, hR⟩
  have HAH : Hid (∀ x y X, Calls Try.prog 72 #[.agg #[.int .i64 x.id, .int .i64 x.co, .int .i64 x.ti, .int .i64 x.se, .int .i64 x.du, .int .i64 x.we, .int .i64 x.ki], .agg #[.int .i64 y.id, .int .i64 y.co, .int .i64 y.ti, .int .i64 y.se, .int .i64 y.du, .int .i64 y.we, .int .i64 y.ki], .int .i64 rule, .int .i64 now] X fun e w' => e = .returned (.int .i64 (rC rule now x y)) ∧ Below X.heap.size X w') := fun x y X => spec_ah rule now hr x y X
  clear hs hnn hR
  go_enter Try.func31, Try.ntmps31
  go_wp2
  go_loopw [7, 8] (fun u i wr => ∃ k : Nat, k ≤ n ∧ i = .int .i64 k ∧ u = .int .i64 (obK (bst (orC rule now) now s k)) ∧ Hid (Below W.heap.size W wr)) (fun _ i _ => n - (intOf i).toNat)
  case atStart => exact ⟨0, Nat.zero_le _, rfl, rfl, Below.refl _ _⟩
  case round =>
    obtain ⟨k, hk, rfl, rfl, hR⟩ := hrel
    by_cases hlt : k < n
    · have hkl : k < s.length := by rw [← H.out.2.1]; exact hlt
      obtain ⟨g, o, c2, he, hg, hj⟩ := (H.out.1.below hR.out).pos (by omega)
      simp only [Value.slice.injEq] at he
      obtain ⟨rfl, hx1, hx2⟩ := he
      clear hx1 hx2
      obtain ⟨c0, c1, c2, c3, c4, c5, c6⟩ := jbC_at (hj k hkl)
      obtain ⟨x, hx⟩ : ∃ x, x = jA s k := ⟨_, rfl⟩
      rw [← jA_at hkl, ← hx] at c0 c1 c2 c3 c4 c5 c6
      have HX : Hid (x = jA s k) := hx
      have b0 : (0 : Int) ≤ (k : Int) := by omega
      have b1 : (k : Int) < (n : Int) := by omega
      by_cases hco : now < x.co
      · have HN : Hid (bst (orC rule now) now s (k + 1) = bst (orC rule now) now s k) := by
          unfold Hid
          rw [bst_succ, ← HX.out, if_pos hco]
        clear hj hx
        go_wp2
        go_roundw
        case rel => exact ⟨k + 1, by omega, by go_num, by rw [HN.out], hR.out⟩
        case measure => simp [intOf]; omega
      obtain ⟨B, hB⟩ : ∃ B, B = bst (orC rule now) now s k := ⟨_, rfl⟩
      have HBB : Hid (B = bst (orC rule now) now s k) := hB
      have HN0 : Hid (bst (orC rule now) now s (k + 1) = stp (orC rule now) s k B) := by
        unfold Hid; rw [bst_succ, ← HX.out, if_neg hco, ← hB]
      rw [← hB]
      cases B with
      | none =>
        have HN : Hid (bst (orC rule now) now s (k + 1) = some k) := HN0.out
        have hob : obK none = -1 := rfl
        rw [hob]
        clear hj hx hB HBB HN0 hob
        go_wp2
        go_roundw
        case rel => exact ⟨k + 1, by omega, by go_num, by rw [HN.out]; rfl, hR.out⟩
        case measure => simp [intOf]; omega
      | some b =>
        have hbk := bst_lt _ _ _ _ _ hB.symm
        have hbl : b < s.length := by omega
        obtain ⟨q0, q1, q2, q3, q4, q5, q6⟩ := jbC_at (hj b hbl)
        obtain ⟨y, hy⟩ : ∃ x, x = jA s b := ⟨_, rfl⟩
        rw [← jA_at hbl, ← hy] at q0 q1 q2 q3 q4 q5 q6
        have hob : obK (some b) = (b : Int) := rfl
        rw [hob]
        obtain ⟨r, hr9⟩ : ∃ r, r = rC rule now x y := ⟨_, rfl⟩
        have b2 : ¬ (b : Int) < 0 := by omega
        have b3 : (0 : Int) ≤ (b : Int) := by omega
        have b4 : (b : Int) < (n : Int) := by omega
        have HCU : Hid (∀ X : Und wr.heap.size wr, Calls Try.prog 72 #[.agg #[.int .i64 x.id, .int .i64 x.co, .int .i64 x.ti, .int .i64 x.se, .int .i64 x.du, .int .i64 x.we, .int .i64 x.ki], .agg #[.int .i64 y.id, .int .i64 y.co, .int .i64 y.ti, .int .i64 y.se, .int .i64 y.du, .int .i64 y.we, .int .i64 y.ki], .int .i64 rule, .int .i64 now] X.W fun e w' => e = .returned (.int .i64 r) ∧ Below X.W.heap.size X.W w') := fun X => by rw [hr9]; exact HAH.out x y X.W
        have HD : Hid (orC rule now x y = if r = 0 then cmpI x.id y.id else r) := by unfold Hid; rw [hr9]; rfl
        have HN1 : Hid (bst (orC rule now) now s (k + 1) = if orC rule now x y < 0 then some k else some b) := by have := HN0.out; unfold stp at this; rw [hy, HX.out]; exact this
        clear hj hx hB HBB HN0 hob hy hr9 hbk hbl
        go_wp2_with (fail)
        (refine wp_region_und (by kernel_rfl) (by kernel_rfl) (fun hund => ?_); (repeat (go_big_quiet_step (first | (go_at_call 72; with_reducible refine und_call ?_ (HCU.out _); exact Nat.le_refl _)))); with_reducible refine wpQuiet_nil ?_; clear hund; intro W1 hb1; obtain ⟨hc1, hf1⟩ := undcell hb1)
        have p0 := (hb1.cell (p := ⟨g, o + k * 7, none⟩) hg).trans c0
        have r0 := (hb1.cell (p := ⟨g, o + b * 7, none⟩) hg).trans q0
        have pl : g < W1.heap.size := Nat.lt_of_lt_of_le hg hb1.size
        have HB : Hid (Below W.heap.size W W1) := hR.out.trans (hb1.mono hR.out.size)
        clear hb1 hc1 hf1 hR HCU q0 q1 q2 q3 q4 q5 q6 c0 c1 c2 c3 c4 c5 c6 hg
        rcases (by omega : r < 0 ∨ r = 0 ∨ 0 < r) with hr0 | hr0 | hr0
        · have HN : Hid (bst (orC rule now) now s (k + 1) = some k) := by
            have e : orC rule now x y = r := by rw [HD.out, if_neg (by omega)]
            unfold Hid; rw [HN1.out, e, if_pos hr0]
          have h1 : decide (r < 0) = true := decide_eq_true hr0
          clear HN1 HD
          go_wp2_with (fail)
          (refine wp_region_und (by kernel_rfl) (by kernel_rfl) (fun hund => ?_); (repeat (go_big_quiet_step (fail))); with_reducible refine wpQuiet_nil ?_; clear hund; intro W2 hb2; obtain ⟨hc2, hf2⟩ := undcell hb2)
          have HB2 : Hid (Below W.heap.size W W2) := HB.out.trans (hb2.mono HB.out.size)
          clear hb2 hc2 hf2 HB
          go_wp2
          go_roundw
          case rel => exact ⟨k + 1, by omega, by go_num, by rw [HN.out]; rfl, HB2.out⟩
          case measure => simp [intOf]; omega
        · subst hr0
          by_cases hid : x.id < y.id
          · have HN : Hid (bst (orC rule now) now s (k + 1) = some k) := by unfold Hid; rw [HN1.out, HD.out, if_pos rfl, if_pos (by unfold cmpI; rw [if_pos hid]; decide)]
            clear HN1 HD
            go_wp2_with (fail)
            (refine wp_region_und (by kernel_rfl) (by kernel_rfl) (fun hund => ?_); (repeat (go_big_quiet_step (fail))); with_reducible refine wpQuiet_nil ?_; clear hund; intro W2 hb2; obtain ⟨hc2, hf2⟩ := undcell hb2)
            have HB2 : Hid (Below W.heap.size W W2) := HB.out.trans (hb2.mono HB.out.size)
            clear hb2 hc2 hf2 HB
            go_wp2
            go_roundw
            case rel => exact ⟨k + 1, by omega, by go_num, by rw [HN.out]; rfl, HB2.out⟩
            case measure => simp [intOf]; omega
          · have HN : Hid (bst (orC rule now) now s (k + 1) = some b) := by
              unfold Hid; rw [HN1.out, HD.out, if_pos rfl, if_neg (by unfold cmpI; rw [if_neg hid]; split <;> decide)]
            clear HN1 HD
            go_wp2_with (fail)
            (refine wp_region_und (by kernel_rfl) (by kernel_rfl) (fun hund => ?_); (repeat (go_big_quiet_step (fail))); with_reducible refine wpQuiet_nil ?_; clear hund; intro W2 hb2; obtain ⟨hc2, hf2⟩ := undcell hb2)
            have HB2 : Hid (Below W.heap.size W W2) := HB.out.trans (hb2.mono HB.out.size)
            clear hb2 hc2 hf2 HB
            go_wp2
            go_roundw
            case rel => exact ⟨k + 1, by omega, by go_num, by rw [HN.out]; rfl, HB2.out⟩
            case measure => simp [intOf]; omega
        · have HN : Hid (bst (orC rule now) now s (k + 1) = some b) := by
            have e : orC rule now x y = r := by rw [HD.out, if_neg (by omega)]
            unfold Hid; rw [HN1.out, e, if_neg (by omega)]
          have h1 : decide (r < 0) = false := decide_eq_false (by omega)
          have h2 : (r == 0) = false := beq_eq_false_iff_ne.2 (by omega)
          clear HN1 HD
          go_wp2_with (fail)
          (refine wp_region_und (by kernel_rfl) (by kernel_rfl) (fun hund => ?_); (repeat (go_big_quiet_step (fail))); with_reducible refine wpQuiet_nil ?_; clear hund; intro W2 hb2; obtain ⟨hc2, hf2⟩ := undcell hb2)
          have HB2 : Hid (Below W.heap.size W W2) := HB.out.trans (hb2.mono HB.out.size)
          clear hb2 hc2 hf2 HB
          go_wp2
          go_roundw
          case rel => exact ⟨k + 1, by omega, by go_num, by rw [HN.out]; rfl, HB2.out⟩
          case measure => simp [intOf]; omega
    · obtain rfl : k = n := by omega
      have HE : Hid (obK (bst (orC rule now) now s k) = R) := H.out.2.2.symm
      go_wp2
      go_returns
      exact ⟨by rw [← HE.out]; rfl, hR.out⟩

end Go.Proofs.Ytjbghflphngnkaa
