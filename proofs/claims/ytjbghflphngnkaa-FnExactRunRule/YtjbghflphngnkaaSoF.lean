/- Proved here: cmp.Compare at numbers, and the orders of jobs. (And ahead of it: Proved here: cells of a block. No condition.) -/
import Derived.Test.YtjbghflphngnkaaGen
import Derived.Test.YtjbghflphngnkaaJoR
namespace Go.Proofs.Ytjbghflphngnkaa
open Go.RowKit
set_option linter.unusedVariables false
set_option linter.unusedSimpArgs false

theorem cellOfQ {V : World} {k : Nat} {cs : Array Value} {T : TypeId} (h : V.heap[k]? = some (.cells cs T)) (i : Nat) {v : Value} (hi : cs[i]? = some v) : V.cell? ⟨k, i, none⟩ = some v := by
  simp [World.cell?, h, hi]
theorem frozOfQ {V : World} {k : Nat} {cs : Array Value} {T : TypeId} (h : V.heap[k]? = some (.cells cs T)) (i : Nat) : V.frozen? ⟨k, i, none⟩ = false := by
  simp [World.frozen?, h]
theorem ltOfQ {V : World} {k : Nat} {o : Obj} (h : V.heap[k]? = some o) : k < V.heap.size := by
  rcases Nat.lt_or_ge k V.heap.size with h' | h'
  · exact h'
  · rw [Array.getElem?_eq_none h'] at h; cases h

end Go.Proofs.Ytjbghflphngnkaa

namespace Go.Proofs.Ytjbghflphngnkaa
open Go.RowKit
set_option linter.unusedVariables false
set_option linter.unusedSimpArgs false


def cmpI (a b : Int) : Int := if a < b then -1 else if b < a then 1 else 0
set_option maxHeartbeats 1600000 in
theorem nan_run (a : Int) (W : World) : Calls Try.prog 86 #[.int .i64 a] W fun e w' => e = .returned (.bool false) ∧ w' = W := by
  have h : (a != a) = false := by simp
  go_enter Try.func86, Try.ntmps86
  go_wp2
  go_returns
  exact ⟨by simp, rfl⟩
set_option maxHeartbeats 1600000 in
theorem cmp_run (a b : Int) (W : World) : Calls Try.prog 75 #[.int .i64 a, .int .i64 b] W fun e w' => e = .returned (.int .i64 (cmpI a b)) ∧ w' = W := by
  have HN : Hid (∀ x X, Calls Try.prog 86 #[.int .i64 x] X fun e w' => e = .returned (.bool false) ∧ w' = X) := nan_run
  rcases (by omega : a < b ∨ b < a ∨ a = b) with h | h | h
  · rw [show cmpI a b = -1 from if_pos h]
    go_enter Try.func75, Try.ntmps75
    go_wp2_with (fail)
    refine (HN.out a _).mono ?_
    rintro e w1 ⟨rfl, hw⟩
    subst w1
    go_wp2_with (fail)
    refine (HN.out b _).mono ?_
    rintro e w1 ⟨rfl, hw⟩
    subst w1
    go_wp2
    go_returns
    exact ⟨rfl, rfl⟩
  · have h2 : ¬ a < b := by omega
    rw [show cmpI a b = 1 by unfold cmpI; rw [if_neg h2, if_pos h]]
    go_enter Try.func75, Try.ntmps75
    go_wp2_with (fail)
    refine (HN.out a _).mono ?_
    rintro e w1 ⟨rfl, hw⟩
    subst w1
    go_wp2_with (fail)
    refine (HN.out b _).mono ?_
    rintro e w1 ⟨rfl, hw⟩
    subst w1
    go_wp2
    go_returns
    exact ⟨rfl, rfl⟩
  · subst h
    rw [show cmpI a a = 0 by unfold cmpI; rw [if_neg (by omega), if_neg (by omega)]]
    go_enter Try.func75, Try.ntmps75
    go_wp2_with (fail)
    refine (HN.out a _).mono ?_
    rintro e w1 ⟨rfl, hw⟩
    subst w1
    go_wp2_with (fail)
    refine (HN.out a _).mono ?_
    rintro e w1 ⟨rfl, hw⟩
    subst w1
    go_wp2
    go_returns
    exact ⟨rfl, rfl⟩

set_option maxHeartbeats 1600000 in
theorem by_id (x y : Jb) (W : World) : Calls Try.prog 57 #[.agg #[.int .i64 x.id, .int .i64 x.co, .int .i64 x.ti, .int .i64 x.se, .int .i64 x.du, .int .i64 x.we, .int .i64 x.ki], .agg #[.int .i64 y.id, .int .i64 y.co, .int .i64 y.ti, .int .i64 y.se, .int .i64 y.du, .int .i64 y.we, .int .i64 y.ki]] W fun e w' => e = .returned (.int .i64 (cmpI x.id y.id)) ∧ Below W.heap.size W w' := by
  obtain ⟨X, hX⟩ : ∃ X, X = (W.alloc (.cells #[.int .i64 x.id, .int .i64 x.co, .int .i64 x.ti, .int .i64 x.se, .int .i64 x.du, .int .i64 x.we, .int .i64 x.ki] 51)).alloc (.cells #[.int .i64 y.id, .int .i64 y.co, .int .i64 y.ti, .int .i64 y.se, .int .i64 y.du, .int .i64 y.we, .int .i64 y.ki] 51) := ⟨_, rfl⟩
  have HX : Hid (Below W.heap.size W X) := by rw [hX]; unfold Hid; (repeat' (first | (with_reducible exact Below.refl _ _) | (with_reducible assumption) | (with_reducible refine Below.setCell ?_ ?_ _) | (with_reducible refine Below.alloc ?_ ?_ _) | (with_reducible refine below_drewN ?_ _) | (with_reducible refine Below.drew ?_) | (with_reducible exact Nat.le_refl _) | omega | (simp; done) | (simp; omega)))
  obtain ⟨r, hr⟩ : ∃ r, r = cmpI x.id y.id := ⟨_, rfl⟩
  have HC : Hid (Calls Try.prog 75 #[.int .i64 x.id, .int .i64 y.id] X fun e w' => e = .returned (.int .i64 r) ∧ w' = X) := by rw [hr]; exact cmp_run _ _ _
  rw [← hr]
  clear hr
  go_enter Try.func57, Try.ntmps57
  go_wp2_with (fail)
  rw [← hX]
  clear hX
  refine HC.out.mono ?_
  rintro e w1 ⟨rfl, hw⟩
  subst w1
  go_wp2
  go_returns
  exact ⟨rfl, HX.out⟩

set_option maxHeartbeats 1600000 in
theorem by_co (x y : Jb) (W : World) : Calls Try.prog 39 #[.agg #[.int .i64 x.id, .int .i64 x.co, .int .i64 x.ti, .int .i64 x.se, .int .i64 x.du, .int .i64 x.we, .int .i64 x.ki], .agg #[.int .i64 y.id, .int .i64 y.co, .int .i64 y.ti, .int .i64 y.se, .int .i64 y.du, .int .i64 y.we, .int .i64 y.ki]] W fun e w' => e = .returned (.int .i64 (cmpI x.co y.co)) ∧ Below W.heap.size W w' := by
  obtain ⟨X, hX⟩ : ∃ X, X = (W.alloc (.cells #[.int .i64 x.id, .int .i64 x.co, .int .i64 x.ti, .int .i64 x.se, .int .i64 x.du, .int .i64 x.we, .int .i64 x.ki] 51)).alloc (.cells #[.int .i64 y.id, .int .i64 y.co, .int .i64 y.ti, .int .i64 y.se, .int .i64 y.du, .int .i64 y.we, .int .i64 y.ki] 51) := ⟨_, rfl⟩
  have HX : Hid (Below W.heap.size W X) := by rw [hX]; unfold Hid; (repeat' (first | (with_reducible exact Below.refl _ _) | (with_reducible assumption) | (with_reducible refine Below.setCell ?_ ?_ _) | (with_reducible refine Below.alloc ?_ ?_ _) | (with_reducible refine below_drewN ?_ _) | (with_reducible refine Below.drew ?_) | (with_reducible exact Nat.le_refl _) | omega | (simp; done) | (simp; omega)))
  obtain ⟨r, hr⟩ : ∃ r, r = cmpI x.co y.co := ⟨_, rfl⟩
  have HC : Hid (Calls Try.prog 75 #[.int .i64 x.co, .int .i64 y.co] X fun e w' => e = .returned (.int .i64 r) ∧ w' = X) := by rw [hr]; exact cmp_run _ _ _
  rw [← hr]
  clear hr
  go_enter Try.func39, Try.ntmps39
  go_wp2_with (fail)
  rw [← hX]
  clear hX
  refine HC.out.mono ?_
  rintro e w1 ⟨rfl, hw⟩
  subst w1
  go_wp2
  go_returns
  exact ⟨rfl, HX.out⟩

set_option maxHeartbeats 1600000 in
theorem by_du (x y : Jb) (W : World) : Calls Try.prog 87 #[.agg #[.int .i64 x.id, .int .i64 x.co, .int .i64 x.ti, .int .i64 x.se, .int .i64 x.du, .int .i64 x.we, .int .i64 x.ki], .agg #[.int .i64 y.id, .int .i64 y.co, .int .i64 y.ti, .int .i64 y.se, .int .i64 y.du, .int .i64 y.we, .int .i64 y.ki]] W fun e w' => e = .returned (.int .i64 (cmpI x.du y.du)) ∧ Below W.heap.size W w' := by
  obtain ⟨X, hX⟩ : ∃ X, X = (W.alloc (.cells #[.int .i64 x.id, .int .i64 x.co, .int .i64 x.ti, .int .i64 x.se, .int .i64 x.du, .int .i64 x.we, .int .i64 x.ki] 51)).alloc (.cells #[.int .i64 y.id, .int .i64 y.co, .int .i64 y.ti, .int .i64 y.se, .int .i64 y.du, .int .i64 y.we, .int .i64 y.ki] 51) := ⟨_, rfl⟩
  have HX : Hid (Below W.heap.size W X) := by rw [hX]; unfold Hid; (repeat' (first | (with_reducible exact Below.refl _ _) | (with_reducible assumption) | (with_reducible refine Below.setCell ?_ ?_ _) | (with_reducible refine Below.alloc ?_ ?_ _) | (with_reducible refine below_drewN ?_ _) | (with_reducible refine Below.drew ?_) | (with_reducible exact Nat.le_refl _) | omega | (simp; done) | (simp; omega)))
  obtain ⟨r, hr⟩ : ∃ r, r = cmpI x.du y.du := ⟨_, rfl⟩
  have HC : Hid (Calls Try.prog 75 #[.int .i64 x.du, .int .i64 y.du] X fun e w' => e = .returned (.int .i64 r) ∧ w' = X) := by rw [hr]; exact cmp_run _ _ _
  rw [← hr]
  clear hr
  go_enter Try.func87, Try.ntmps87
  go_wp2_with (fail)
  rw [← hX]
  clear hX
  refine HC.out.mono ?_
  rintro e w1 ⟨rfl, hw⟩
  subst w1
  go_wp2
  go_returns
  exact ⟨rfl, HX.out⟩

set_option maxHeartbeats 1600000 in
theorem by_ti (x y : Jb) (W : World) : Calls Try.prog 56 #[.agg #[.int .i64 x.id, .int .i64 x.co, .int .i64 x.ti, .int .i64 x.se, .int .i64 x.du, .int .i64 x.we, .int .i64 x.ki], .agg #[.int .i64 y.id, .int .i64 y.co, .int .i64 y.ti, .int .i64 y.se, .int .i64 y.du, .int .i64 y.we, .int .i64 y.ki]] W fun e w' => e = .returned (.int .i64 (cmpI x.ti y.ti)) ∧ Below W.heap.size W w' := by
  obtain ⟨X, hX⟩ : ∃ X, X = (W.alloc (.cells #[.int .i64 x.id, .int .i64 x.co, .int .i64 x.ti, .int .i64 x.se, .int .i64 x.du, .int .i64 x.we, .int .i64 x.ki] 51)).alloc (.cells #[.int .i64 y.id, .int .i64 y.co, .int .i64 y.ti, .int .i64 y.se, .int .i64 y.du, .int .i64 y.we, .int .i64 y.ki] 51) := ⟨_, rfl⟩
  have HX : Hid (Below W.heap.size W X) := by rw [hX]; unfold Hid; (repeat' (first | (with_reducible exact Below.refl _ _) | (with_reducible assumption) | (with_reducible refine Below.setCell ?_ ?_ _) | (with_reducible refine Below.alloc ?_ ?_ _) | (with_reducible refine below_drewN ?_ _) | (with_reducible refine Below.drew ?_) | (with_reducible exact Nat.le_refl _) | omega | (simp; done) | (simp; omega)))
  obtain ⟨r, hr⟩ : ∃ r, r = cmpI x.ti y.ti := ⟨_, rfl⟩
  have HC : Hid (Calls Try.prog 75 #[.int .i64 x.ti, .int .i64 y.ti] X fun e w' => e = .returned (.int .i64 r) ∧ w' = X) := by rw [hr]; exact cmp_run _ _ _
  rw [← hr]
  clear hr
  go_enter Try.func56, Try.ntmps56
  go_wp2_with (fail)
  rw [← hX]
  clear hX
  refine HC.out.mono ?_
  rintro e w1 ⟨rfl, hw⟩
  subst w1
  go_wp2
  go_returns
  exact ⟨rfl, HX.out⟩

set_option maxHeartbeats 1600000 in
theorem by_fs (x y : Jb) (W : World) : Calls Try.prog 58 #[.agg #[.int .i64 x.id, .int .i64 x.co, .int .i64 x.ti, .int .i64 x.se, .int .i64 x.du, .int .i64 x.we, .int .i64 x.ki], .agg #[.int .i64 y.id, .int .i64 y.co, .int .i64 y.ti, .int .i64 y.se, .int .i64 y.du, .int .i64 y.we, .int .i64 y.ki]] W fun e w' => e = .returned (.int .i64 (cmpI y.se x.se)) ∧ Below W.heap.size W w' := by
  obtain ⟨X, hX⟩ : ∃ X, X = (W.alloc (.cells #[.int .i64 x.id, .int .i64 x.co, .int .i64 x.ti, .int .i64 x.se, .int .i64 x.du, .int .i64 x.we, .int .i64 x.ki] 51)).alloc (.cells #[.int .i64 y.id, .int .i64 y.co, .int .i64 y.ti, .int .i64 y.se, .int .i64 y.du, .int .i64 y.we, .int .i64 y.ki] 51) := ⟨_, rfl⟩
  have HX : Hid (Below W.heap.size W X) := by rw [hX]; unfold Hid; (repeat' (first | (with_reducible exact Below.refl _ _) | (with_reducible assumption) | (with_reducible refine Below.setCell ?_ ?_ _) | (with_reducible refine Below.alloc ?_ ?_ _) | (with_reducible refine below_drewN ?_ _) | (with_reducible refine Below.drew ?_) | (with_reducible exact Nat.le_refl _) | omega | (simp; done) | (simp; omega)))
  obtain ⟨r, hr⟩ : ∃ r, r = cmpI y.se x.se := ⟨_, rfl⟩
  have HC : Hid (Calls Try.prog 75 #[.int .i64 y.se, .int .i64 x.se] X fun e w' => e = .returned (.int .i64 r) ∧ w' = X) := by rw [hr]; exact cmp_run _ _ _
  rw [← hr]
  clear hr
  go_enter Try.func58, Try.ntmps58
  go_wp2_with (fail)
  rw [← hX]
  clear hX
  refine HC.out.mono ?_
  rintro e w1 ⟨rfl, hw⟩
  subst w1
  go_wp2
  go_returns
  exact ⟨rfl, HX.out⟩

/-- (a.Due - now) * b.Time against (b.Due - now) * a.Time, as the machine reckons them. -/
def raC (now : Int) (x y : Jb) : Int := cmpI (wrap64 (wrap64 (x.du - now) * y.ti)) (wrap64 (wrap64 (y.du - now) * x.ti))
set_option maxHeartbeats 1600000 in
theorem by_ra (now : Int) (x y : Jb) {W : World} {k : Nat} (hk : W.cell? ⟨k, 0, none⟩ = some (.int .i64 now)) (hkl : k < W.heap.size) : Calls Try.prog 92 #[.agg #[.int .i64 x.id, .int .i64 x.co, .int .i64 x.ti, .int .i64 x.se, .int .i64 x.du, .int .i64 x.we, .int .i64 x.ki], .agg #[.int .i64 y.id, .int .i64 y.co, .int .i64 y.ti, .int .i64 y.se, .int .i64 y.du, .int .i64 y.we, .int .i64 y.ki], .pointer (some ⟨k, 0, none⟩)] W fun e w' => e = .returned (.int .i64 (raC now x y)) ∧ Below W.heap.size W w' := by
  obtain ⟨X, hX⟩ : ∃ X, X = (W.alloc (.cells #[.int .i64 x.id, .int .i64 x.co, .int .i64 x.ti, .int .i64 x.se, .int .i64 x.du, .int .i64 x.we, .int .i64 x.ki] 51)).alloc (.cells #[.int .i64 y.id, .int .i64 y.co, .int .i64 y.ti, .int .i64 y.se, .int .i64 y.du, .int .i64 y.we, .int .i64 y.ki] 51) := ⟨_, rfl⟩
  have HX : Hid (Below W.heap.size W X) := by rw [hX]; unfold Hid; (repeat' (first | (with_reducible exact Below.refl _ _) | (with_reducible assumption) | (with_reducible refine Below.setCell ?_ ?_ _) | (with_reducible refine Below.alloc ?_ ?_ _) | (with_reducible refine below_drewN ?_ _) | (with_reducible refine Below.drew ?_) | (with_reducible exact Nat.le_refl _) | omega | (simp; done) | (simp; omega)))
  obtain ⟨r, hr⟩ : ∃ r, r = raC now x y := ⟨_, rfl⟩
  have HC : Hid (Calls Try.prog 75 #[.int .i64 (wrap64 (wrap64 (x.du - now) * y.ti)), .int .i64 (wrap64 (wrap64 (y.du - now) * x.ti))] X fun e w' => e = .returned (.int .i64 r) ∧ w' = X) := by rw [hr]; exact cmp_run _ _ _
  rw [← hr]
  clear hr
  go_enter Try.func92, Try.ntmps92
  go_wp2_with (fail)
  rw [← hX]
  clear hX
  refine HC.out.mono ?_
  rintro e w1 ⟨rfl, hw⟩
  subst w1
  go_wp2
  go_returns
  exact ⟨rfl, HX.out⟩

end Go.Proofs.Ytjbghflphngnkaa
