/- Proved here: symMergeCmpFunc, stableCmpFunc, SortStableFunc at up to 39 jobs: stbF. -/
import Derived.Test.YtjbghflphngnkaaJoX
import Derived.Test.YtjbghflphngnkaaJoI
namespace Go.Proofs.Ytjbghflphngnkaa
open Go.RowKit
set_option linter.unusedVariables false
set_option linter.unusedSimpArgs false


theorem sym_run {W : World} {lo p g n cap : Nat} {c : Jb → Jb → Int} (hn : n ≤ 1000) (hC : Cmp W lo p c) : ∀ (f a m b : Nat) (l : List Jb) (w : World), a < m → m < b → b ≤ n → b - a ≤ f → OJ w lo g n cap l → Below lo W w →
    Calls Try.prog 94 #[.slice (some ⟨g, 0, none⟩) n cap, .int .i64 a, .int .i64 m, .int .i64 b, .func (Fn.func 81) #[] #[.pointer (some ⟨p, 0, none⟩)]] w fun e w' => e = .returned (.tuple #[]) ∧ OJ w' lo g n cap (symF c f a m b l) ∧ Below lo W w' := by
  intro f
  induction f with
  | zero => intro a m b l w h1 h2 h3 h4; omega
  | succ f ih =>
    intro a m b l w h1 h2 h3 h4 ho hW
    by_cases k1 : m = a + 1
    · refine (sym_one a m b k1 h2 h3 hn hC ho hW).mono ?_
      rintro e w' ⟨r1, r2, r3⟩
      refine ⟨r1, ?_, r3⟩
      unfold symF
      rw [if_pos (by omega)]
      exact r2
    · by_cases k2 : b = m + 1
      · refine (sym_two a m b (by omega) k2 h3 hn hC ho hW).mono ?_
        rintro e w' ⟨r1, r2, r3⟩
        refine ⟨r1, ?_, r3⟩
        unfold symF
        rw [if_neg (by omega), if_pos (by omega)]
        exact r2
      · exact sym_gen f a m b (by omega) (by omega) h3 h4 hn hC (fun a' m' b' l' w' j1 j2 j3 j4 j5 j6 => ih a' m' b' l' w' j1 j2 j3 j4 j5 j6) ho hW
/-- stableCmpFunc at up to 39. -/
def stbF (c : Jb → Jb → Int) (n : Nat) (l : List Jb) : List Jb :=
  if n < 20 then insS c 0 n l else if n = 20 then insS c 20 n (insS c 0 20 l) else symF c n 0 20 n (insS c 20 n (insS c 0 20 l))
set_option maxRecDepth 10000 in
set_option maxHeartbeats 12800000 in
theorem stb_run {W w : World} {lo p g n cap : Nat} {c : Jb → Jb → Int} {l : List Jb} (hn : n ≤ 39) (hC : Cmp W lo p c) (ho : OJ w lo g n cap l) (hW : Below lo W w) :
    Calls Try.prog 90 #[.slice (some ⟨g, 0, none⟩) n cap, .int .i64 n, .func (Fn.func 81) #[] #[.pointer (some ⟨p, 0, none⟩)]] w fun e w' => e = .returned (.tuple #[]) ∧ OJ w' lo g n cap (stbF c n l) ∧ Below lo W w' := by
  have HI : Hid (∀ (a b : Nat) (l2 : List Jb) (X : World), a ≤ b → b ≤ n → OJ X lo g n cap l2 → Below lo W X → Calls Try.prog 93 #[.slice (some ⟨g, 0, none⟩) n cap, .int .i64 a, .int .i64 b, .func (Fn.func 81) #[] #[.pointer (some ⟨p, 0, none⟩)]] X fun e w' => e = .returned (.tuple #[]) ∧ OJ w' lo g n cap (insS c a b l2) ∧ Below lo W w') := fun a b l2 X h1 h2 h3 h4 => ins_run a b h1 h2 (by omega) hC h3 h4
  have HY : Hid (∀ (l2 : List Jb) (X : World), 20 < n → OJ X lo g n cap l2 → Below lo W X → Calls Try.prog 94 #[.slice (some ⟨g, 0, none⟩) n cap, .int .i64 0, .int .i64 20, .int .i64 n, .func (Fn.func 81) #[] #[.pointer (some ⟨p, 0, none⟩)]] X fun e w' => e = .returned (.tuple #[]) ∧ OJ w' lo g n cap (symF c n 0 20 n l2) ∧ Below lo W w') := fun l2 X h1 h3 h4 => by
    have := sym_run (by omega : n ≤ 1000) hC n 0 20 n l2 X (by omega) h1 (Nat.le_refl _) (by omega) h3 h4
    exact this
  have HS : Hid (OJ w lo g n cap l ∧ Below lo W w) := ⟨ho, hW⟩
  obtain ⟨R, hR⟩ : ∃ R, R = stbF c n l := ⟨_, rfl⟩
  have HR : Hid (R = stbF c n l) := hR
  rw [← hR]
  clear ho hW hC hR
  by_cases h20 : n < 20
  · have b0 : ¬ (20 : Int) ≤ (n : Int) := by omega
    have b1 : ¬ (20 : Int) < (n : Int) := by omega
    have HE : Hid (insS c 0 n l = R) := by unfold Hid; rw [HR.out, stbF, if_pos h20]
    clear HR
    go_enter Try.func90, Try.ntmps90
    go_wp2
    refine wp_loop_rounds 1 ?_
    rw [rounds_succ]
    go_wp2_with (fail)
    have := HI.out 0 n l w (Nat.zero_le _) (Nat.le_refl _) HS.out.1 HS.out.2
    refine (show Calls Try.prog 93 #[.slice (some ⟨g, 0, none⟩) n cap, .int .i64 0, .int .i64 n, .func (Fn.func 81) #[] #[.pointer (some ⟨p, 0, none⟩)]] w _ from this).mono ?_
    rintro e w5 ⟨rfl, q1, q2⟩
    have HF : Hid (OJ w5 lo g n cap R ∧ Below lo W w5) := ⟨by rw [← HE.out]; exact q1, q2⟩
    clear this q1 q2 HS HE
    go_wp2
    refine wp_loop_rounds 1 ?_
    rw [rounds_succ]
    go_wp2
    go_returns
    exact ⟨rfl, HF.out⟩
  have b0 : (20 : Int) ≤ (n : Int) := by omega
  have b1 : ¬ (40 : Int) ≤ (n : Int) := by omega
  have b2 : ¬ (40 : Int) < (n : Int) := by omega
  go_enter Try.func90, Try.ntmps90
  go_wp2
  refine wp_loop_rounds 2 ?_
  rw [rounds_succ]
  go_wp2_with (fail)
  have hc1 := HI.out 0 20 l w (by omega) (by omega) HS.out.1 HS.out.2
  refine (show Calls Try.prog 93 #[.slice (some ⟨g, 0, none⟩) n cap, .int .i64 0, .int .i64 20, .func (Fn.func 81) #[] #[.pointer (some ⟨p, 0, none⟩)]] w _ from hc1).mono ?_
  rintro e w5 ⟨rfl, q1, q2⟩
  have HF : Hid (OJ w5 lo g n cap (insS c 0 20 l) ∧ Below lo W w5) := ⟨q1, q2⟩
  clear hc1 q1 q2 HS
  go_wp2
  rw [rounds_succ]
  go_wp2_with (fail)
  have hc1 := HI.out 20 n (insS c 0 20 l) w5 (by omega) (by omega) HF.out.1 HF.out.2
  refine (show Calls Try.prog 93 #[.slice (some ⟨g, 0, none⟩) n cap, .int .i64 20, .int .i64 n, .func (Fn.func 81) #[] #[.pointer (some ⟨p, 0, none⟩)]] w5 _ from hc1).mono ?_
  rintro e w6 ⟨rfl, q1, q2⟩
  have HF2 : Hid (OJ w6 lo g n cap (insS c 20 n (insS c 0 20 l)) ∧ Below lo W w6) := ⟨q1, q2⟩
  clear hc1 q1 q2 HF
  by_cases h21 : n = 20
  · have HE : Hid (OJ w6 lo g n cap R ∧ Below lo W w6) := by
      refine ⟨?_, HF2.out.2⟩
      rw [HR.out, stbF, if_neg h20, if_pos h21]; exact HF2.out.1
    have b3 : ¬ (20 : Int) < (n : Int) := by omega
    clear HF2 HR
    go_wp2
    refine wp_loop_rounds 1 ?_
    rw [rounds_succ]
    go_wp2
    go_returns
    exact ⟨rfl, HE.out⟩
  have b3 : (20 : Int) < (n : Int) := by omega
  go_wp2
  refine wp_loop_rounds 2 ?_
  rw [rounds_succ]
  go_wp2
  refine wp_loop_rounds 1 ?_
  rw [rounds_succ]
  go_wp2_with (fail)
  refine (HY.out _ w6 (by omega) HF2.out.1 HF2.out.2).mono ?_
  rintro e w7 ⟨rfl, q1, q2⟩
  have HE : Hid (OJ w7 lo g n cap R ∧ Below lo W w7) := by
    refine ⟨?_, q2⟩
    rw [HR.out, stbF, if_neg h20, if_neg h21]; exact q1
  clear q1 q2 HF2 HR
  go_wp2
  rw [rounds_succ]
  go_wp2
  go_returns
  exact ⟨rfl, HE.out⟩

set_option maxRecDepth 10000 in
set_option maxHeartbeats 3200000 in
theorem ssf_run {W w : World} {lo p g n cap : Nat} {c : Jb → Jb → Int} {l : List Jb} (hn : n ≤ 39) (hC : Cmp W lo p c) (ho : OJ w lo g n cap l) (hW : Below lo W w) :
    Calls Try.prog 80 #[.slice (some ⟨g, 0, none⟩) n cap, .func (Fn.func 81) #[] #[.pointer (some ⟨p, 0, none⟩)]] w fun e w' => e = .returned (.tuple #[]) ∧ OJ w' lo g n cap (stbF c n l) ∧ Below lo W w' := by
  have HC : Hid (Calls Try.prog 90 #[.slice (some ⟨g, 0, none⟩) n cap, .int .i64 n, .func (Fn.func 81) #[] #[.pointer (some ⟨p, 0, none⟩)]] w fun e w' => e = .returned (.tuple #[]) ∧ OJ w' lo g n cap (stbF c n l) ∧ Below lo W w') := stb_run hn hC ho hW
  clear ho hC hW
  go_enter Try.func80, Try.ntmps80
  go_wp2_with (fail)
  refine HC.out.mono ?_
  rintro e w5 ⟨rfl, q1, q2⟩
  have HF : Hid (OJ w5 lo g n cap (stbF c n l) ∧ Below lo W w5) := ⟨q1, q2⟩
  clear q1 q2 HC
  go_wp2
  go_returns
  exact ⟨rfl, HF.out⟩

end Go.Proofs.Ytjbghflphngnkaa
