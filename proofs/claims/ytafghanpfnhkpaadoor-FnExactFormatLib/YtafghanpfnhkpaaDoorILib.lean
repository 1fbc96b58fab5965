/- Proved here: the program's faults of a box on a layer and of a place: lbK, plK. -/
import Derived.Test.YtafghanpfnhkpaaDoorLibM
import Derived.Test.YtafghanpfnhkpaaDoorMapN
import Derived.Test.YtafghanpfnhkpaaDoorTyOpen
namespace Go.Proofs.YtafghanpfnhkpaaDoor
open Go.RowKit Go.WideMaps Go.Maps
set_option linter.unusedVariables false
set_option linter.unusedSimpArgs false

set_option maxHeartbeats 800000 in
theorem impl_inside (n a b : Int) (w : World) : Calls Tryd.prog 51 #[.int .i64 n, .int .i64 a, .int .i64 b] w fun e w' => e = .returned (.bool (inN n a b)) ∧ w' = w := by
  have H : Hid ((¬ a ≤ n → inN n a b = false) ∧ (a ≤ n → n ≤ b → inN n a b = true) ∧ (a ≤ n → ¬ n ≤ b → inN n a b = false)) := by
    unfold Hid inN
    exact ⟨fun h => by simp [h], fun h1 h2 => by simp [h1, h2], fun h1 h2 => by simp [h1, h2]⟩
  generalize inN n a b = r at H ⊢
  by_cases h1 : a ≤ n
  · by_cases h2 : n ≤ b
    · obtain rfl := H.out.2.1 h1 h2
      go_enter Tryd.func51, Tryd.ntmps51
      go_wp2
      go_returns
      exact ⟨rfl, rfl⟩
    · obtain rfl := H.out.2.2 h1 h2
      go_enter Tryd.func51, Tryd.ntmps51
      go_wp2
      go_returns
      exact ⟨rfl, rfl⟩
  · obtain rfl := H.out.1 h1
    go_enter Tryd.func51, Tryd.ntmps51
    go_wp2
    go_returns
    exact ⟨rfl, rfl⟩

set_option maxHeartbeats 1600000 in
theorem impl_lbf (x : Lb) (w : World) :
    Calls Tryd.prog 39 #[.agg #[.int .i64 x.l, .int .i64 x.b.x0, .int .i64 x.b.y0, .int .i64 x.b.x1, .int .i64 x.b.y1]] w fun e w' => e = .returned (.int .i64 (lbK x)) ∧ Below w.heap.size w w' := by
  have hin := fun w => impl_inside x.l 0 15 w
  obtain ⟨K, hK⟩ : ∃ K, K = lbK x := ⟨_, rfl⟩
  rw [← hK]
  cases hc : inN x.l 0 15 with
  | false =>
    have HK : Hid (K = 1) := by
      unfold Hid
      rw [hK]
      unfold lbK
      unfold inN at hc
      rw [if_pos]
      simp at hc
      omega
    rw [hc] at hin
    clear hK
    go_enter Tryd.func39, Tryd.ntmps39
    go_wp2_with (fail)
    refine (hin _).mono ?_
    rintro e w1 ⟨rfl, rfl⟩
    go_wp2
    go_returns
    exact ⟨by rw [HK.out]; rfl, by (repeat' (first | (with_reducible exact Below.refl _ _) | (with_reducible assumption) | (with_reducible refine Below.setCell ?_ ?_ _) | (with_reducible refine Below.alloc ?_ ?_ _) | (with_reducible refine below_drewN ?_ _) | (with_reducible refine Below.drew ?_) | (with_reducible exact Nat.le_refl _) | omega | (simp; done) | (simp; omega)))⟩
  | true =>
    have HK : Hid (K = bfK x.b) := by
      unfold Hid
      rw [hK]
      unfold lbK
      unfold inN at hc
      rw [if_neg]
      simp at hc
      omega
    rw [hc] at hin
    clear hK
    have hbox := fun w => impl_box x.b w
    rw [← HK.out] at hbox
    go_enter Tryd.func39, Tryd.ntmps39
    go_wp2_with (fail)
    refine (hin _).mono ?_
    rintro e w1 ⟨rfl, rfl⟩
    go_wp2_with (fail)
    refine (hbox _).mono ?_
    rintro e w2 ⟨rfl, hb2⟩
    have HB : Hid (Below w.heap.size w w2) := (show Below w.heap.size w _ from by (repeat' (first | (with_reducible exact Below.refl _ _) | (with_reducible assumption) | (with_reducible refine Below.setCell ?_ ?_ _) | (with_reducible refine Below.alloc ?_ ?_ _) | (with_reducible refine below_drewN ?_ _) | (with_reducible refine Below.drew ?_) | (with_reducible exact Nat.le_refl _) | omega | (simp; done) | (simp; omega)))).trans (hb2.mono (by simp))
    clear hb2
    go_wp2
    go_returns
    exact ⟨rfl, HB.out⟩

theorem ix0 (x y z u : Int) (w : World) : (Instr.index 95 (.agg #[.int .i64 x, .int .i64 y, .int .i64 z, .int .i64 u]) (.int .i64 0)).run Tryd.prog w = .ok (.int .i64 x) w := by kernel_rfl
theorem ix1 (x y z u : Int) (w : World) : (Instr.index 95 (.agg #[.int .i64 x, .int .i64 y, .int .i64 z, .int .i64 u]) (.int .i64 1)).run Tryd.prog w = .ok (.int .i64 y) w := by kernel_rfl
theorem ix2 (x y z u : Int) (w : World) : (Instr.index 95 (.agg #[.int .i64 x, .int .i64 y, .int .i64 z, .int .i64 u]) (.int .i64 2)).run Tryd.prog w = .ok (.int .i64 z) w := by kernel_rfl
theorem ix3 (x y z u : Int) (w : World) : (Instr.index 95 (.agg #[.int .i64 x, .int .i64 y, .int .i64 z, .int .i64 u]) (.int .i64 3)).run Tryd.prog w = .ok (.int .i64 u) w := by kernel_rfl
theorem in_far (n : Int) : inN n (-10000) 10000 = !farN n := by
  unfold inN farN
  by_cases h1 : n < -10000
  · have h3 : ¬ -10000 ≤ n := by omega
    simp [h1, h3]
  · have h3 : -10000 ≤ n := by omega
    by_cases h2 : 10000 < n
    · have h4 : ¬ n ≤ 10000 := by omega
      simp [h1, h2, h3, h4]
    · have h4 : n ≤ 10000 := by omega
      simp [h1, h2, h3, h4]

set_option maxRecDepth 10000 in
set_option maxHeartbeats 6400000 in
theorem impl_place (p : Pl) (b n : Nat) (cnt : ByteArray → Int) (w : World) (hp : p.c.size ≤ maxLen) (hc : 0 ≤ cnt p.c) (h : MN w b n cnt) :
    Calls Tryd.prog 40 #[.agg #[.string p.c, .int .i64 p.x, .int .i64 p.y, .int .i64 p.t, .bool p.f, .int .i64 p.nx, .int .i64 p.ny, .int .i64 p.dx, .int .i64 p.dy], .map (some b)] w fun e w' => e = .returned (.int .i64 (plK (decide (0 < cnt p.c)) p)) ∧ Below w.heap.size w w' := by
  have hlook := (h.below (show Below w.heap.size w (w.alloc (.cells #[.string p.c, .int .i64 p.x, .int .i64 p.y, .int .i64 p.t, .bool p.f, .int .i64 p.nx, .int .i64 p.ny, .int .i64 p.dx, .int .i64 p.dy] 45)) from (Below.refl _ _).alloc (Nat.le_refl _) _)).look hp
  clear h hp
  generalize cnt p.c = q at hc hlook ⊢
  obtain ⟨K, hK⟩ : ∃ K, K = plK (decide (0 < q)) p := ⟨_, rfl⟩
  rw [← hK]
  have i1 := fun w => impl_inside p.t 0 3 w
  have i2 := fun w => impl_inside p.nx 1 20 w
  have i3 := fun w => impl_inside p.ny 1 20 w
  have f1 := fun w => impl_inside p.x (-10000) 10000 w
  have f2 := fun w => impl_inside p.y (-10000) 10000 w
  have f3 := fun w => impl_inside p.dx (-10000) 10000 w
  have f4 := fun w => impl_inside p.dy (-10000) 10000 w
  simp only [in_far] at f1 f2 f3 f4
  by_cases hq : q = 0
  · have HK : Hid (K = 4) := by unfold Hid; rw [hK, hq]; simp [plK]
    subst hq
    clear hK
    go_enter Tryd.func40, Tryd.ntmps40
    go_wp2
    go_returns
    exact ⟨by rw [HK.out]; rfl, by (repeat' (first | (with_reducible exact Below.refl _ _) | (with_reducible assumption) | (with_reducible refine Below.setCell ?_ ?_ _) | (with_reducible refine Below.alloc ?_ ?_ _) | (with_reducible refine below_drewN ?_ _) | (with_reducible refine Below.drew ?_) | (with_reducible exact Nat.le_refl _) | omega | (simp; done) | (simp; omega)))⟩
  have hq1 : 0 < q := by omega
  have HP : Hid (K = if inN p.t 0 3 = true ∧ inN p.nx 1 20 = true ∧ inN p.ny 1 20 = true then (if farN p.x = true ∨ farN p.y = true ∨ farN p.dx = true ∨ farN p.dy = true then 3 else 0) else 1) := by
    unfold Hid
    rw [hK]
    unfold plK
    rw [if_neg (by simp [hq1])]
  have hqb : (q == 0) = false := by simp [hq]
  clear hK hq
  cases t1 : inN p.t 0 3 with
  | false =>
    have HK : Hid (K = 1) := by unfold Hid; rw [HP.out, t1]; simp
    rw [t1] at i1
    go_enter Tryd.func40, Tryd.ntmps40
    go_wp2_with (fail)
    refine (i1 _).mono ?_
    rintro e w1 ⟨rfl, rfl⟩
    go_wp2
    go_returns
    exact ⟨by rw [HK.out]; rfl, by (repeat' (first | (with_reducible exact Below.refl _ _) | (with_reducible assumption) | (with_reducible refine Below.setCell ?_ ?_ _) | (with_reducible refine Below.alloc ?_ ?_ _) | (with_reducible refine below_drewN ?_ _) | (with_reducible refine Below.drew ?_) | (with_reducible exact Nat.le_refl _) | omega | (simp; done) | (simp; omega)))⟩
  | true =>
    rw [t1] at i1
    cases t2 : inN p.nx 1 20 with
    | false =>
      have HK : Hid (K = 1) := by unfold Hid; rw [HP.out, t2]; simp
      rw [t2] at i2
      go_enter Tryd.func40, Tryd.ntmps40
      go_wp2_with (fail)
      refine (i1 _).mono ?_
      rintro e w1 ⟨rfl, rfl⟩
      go_wp2_with (fail)
      refine (i2 _).mono ?_
      rintro e w1 ⟨rfl, rfl⟩
      go_wp2
      go_returns
      exact ⟨by rw [HK.out]; rfl, by (repeat' (first | (with_reducible exact Below.refl _ _) | (with_reducible assumption) | (with_reducible refine Below.setCell ?_ ?_ _) | (with_reducible refine Below.alloc ?_ ?_ _) | (with_reducible refine below_drewN ?_ _) | (with_reducible refine Below.drew ?_) | (with_reducible exact Nat.le_refl _) | omega | (simp; done) | (simp; omega)))⟩
    | true =>
      rw [t2] at i2
      cases t3 : inN p.ny 1 20 with
      | false =>
        have HK : Hid (K = 1) := by unfold Hid; rw [HP.out, t3]; simp
        rw [t3] at i3
        go_enter Tryd.func40, Tryd.ntmps40
        go_wp2_with (fail)
        refine (i1 _).mono ?_
        rintro e w1 ⟨rfl, rfl⟩
        go_wp2_with (fail)
        refine (i2 _).mono ?_
        rintro e w1 ⟨rfl, rfl⟩
        go_wp2_with (fail)
        refine (i3 _).mono ?_
        rintro e w1 ⟨rfl, rfl⟩
        go_wp2
        go_returns
        exact ⟨by rw [HK.out]; rfl, by (repeat' (first | (with_reducible exact Below.refl _ _) | (with_reducible assumption) | (with_reducible refine Below.setCell ?_ ?_ _) | (with_reducible refine Below.alloc ?_ ?_ _) | (with_reducible refine below_drewN ?_ _) | (with_reducible refine Below.drew ?_) | (with_reducible exact Nat.le_refl _) | omega | (simp; done) | (simp; omega)))⟩
      | true =>
        rw [t3] at i3
        have HQ : Hid (K = if farN p.x = true ∨ farN p.y = true ∨ farN p.dx = true ∨ farN p.dy = true then 3 else 0) := by unfold Hid; rw [HP.out, t1, t2, t3]; simp
        clear HP t1 t2 t3
        go_enter Tryd.func40, Tryd.ntmps40
        go_wp2_with (fail)
        refine (i1 _).mono ?_
        rintro e w1 ⟨rfl, rfl⟩
        go_wp2_with (fail)
        refine (i2 _).mono ?_
        rintro e w1 ⟨rfl, rfl⟩
        go_wp2_with (fail)
        refine (i3 _).mono ?_
        rintro e w1 ⟨rfl, rfl⟩
        clear i1 i2 i3 hlook
        go_wp2
        refine wp_loop_rounds 5 ?_
        rw [rounds_succ]
        have hx0 := fun w => ix0 p.x p.y p.dx p.dy w
        have hx1 := fun w => ix1 p.x p.y p.dx p.dy w
        have hx2 := fun w => ix2 p.x p.y p.dx p.dy w
        have hx3 := fun w => ix3 p.x p.y p.dx p.dy w
        cases e1 : farN p.x with
        | true =>
          have HK : Hid (K = 3) := by unfold Hid; rw [HQ.out, e1]; simp
          rw [e1] at f1
          go_wp2_with (fail)
          refine (f1 _).mono ?_
          rintro e w1 ⟨rfl, rfl⟩
          go_wp2
          go_returns
          exact ⟨by rw [HK.out]; rfl, by (repeat' (first | (with_reducible exact Below.refl _ _) | (with_reducible assumption) | (with_reducible refine Below.setCell ?_ ?_ _) | (with_reducible refine Below.alloc ?_ ?_ _) | (with_reducible refine below_drewN ?_ _) | (with_reducible refine Below.drew ?_) | (with_reducible exact Nat.le_refl _) | omega | (simp; done) | (simp; omega)))⟩
        | false =>
          rw [e1] at f1
          go_wp2_with (fail)
          refine (f1 _).mono ?_
          rintro e w1 ⟨rfl, rfl⟩
          go_wp2
          rw [rounds_succ]
          cases e2 : farN p.y with
          | true =>
            have HK : Hid (K = 3) := by unfold Hid; rw [HQ.out, e2]; simp
            rw [e2] at f2
            go_wp2_with (fail)
            refine (f2 _).mono ?_
            rintro e w1 ⟨rfl, rfl⟩
            go_wp2
            go_returns
            exact ⟨by rw [HK.out]; rfl, by (repeat' (first | (with_reducible exact Below.refl _ _) | (with_reducible assumption) | (with_reducible refine Below.setCell ?_ ?_ _) | (with_reducible refine Below.alloc ?_ ?_ _) | (with_reducible refine below_drewN ?_ _) | (with_reducible refine Below.drew ?_) | (with_reducible exact Nat.le_refl _) | omega | (simp; done) | (simp; omega)))⟩
          | false =>
            rw [e2] at f2
            go_wp2_with (fail)
            refine (f2 _).mono ?_
            rintro e w1 ⟨rfl, rfl⟩
            go_wp2
            rw [rounds_succ]
            cases e3 : farN p.dx with
            | true =>
              have HK : Hid (K = 3) := by unfold Hid; rw [HQ.out, e3]; simp
              rw [e3] at f3
              go_wp2_with (fail)
              refine (f3 _).mono ?_
              rintro e w1 ⟨rfl, rfl⟩
              go_wp2
              go_returns
              exact ⟨by rw [HK.out]; rfl, by (repeat' (first | (with_reducible exact Below.refl _ _) | (with_reducible assumption) | (with_reducible refine Below.setCell ?_ ?_ _) | (with_reducible refine Below.alloc ?_ ?_ _) | (with_reducible refine below_drewN ?_ _) | (with_reducible refine Below.drew ?_) | (with_reducible exact Nat.le_refl _) | omega | (simp; done) | (simp; omega)))⟩
            | false =>
              rw [e3] at f3
              go_wp2_with (fail)
              refine (f3 _).mono ?_
              rintro e w1 ⟨rfl, rfl⟩
              go_wp2
              rw [rounds_succ]
              cases e4 : farN p.dy with
              | true =>
                have HK : Hid (K = 3) := by unfold Hid; rw [HQ.out, e4]; simp
                rw [e4] at f4
                go_wp2_with (fail)
                refine (f4 _).mono ?_
                rintro e w1 ⟨rfl, rfl⟩
                go_wp2
                go_returns
                exact ⟨by rw [HK.out]; rfl, by (repeat' (first | (with_reducible exact Below.refl _ _) | (with_reducible assumption) | (with_reducible refine Below.setCell ?_ ?_ _) | (with_reducible refine Below.alloc ?_ ?_ _) | (with_reducible refine below_drewN ?_ _) | (with_reducible refine Below.drew ?_) | (with_reducible exact Nat.le_refl _) | omega | (simp; done) | (simp; omega)))⟩
              | false =>
                rw [e4] at f4
                go_wp2_with (fail)
                refine (f4 _).mono ?_
                rintro e w1 ⟨rfl, rfl⟩
                go_wp2
                have HK : Hid (K = 0) := by unfold Hid; rw [HQ.out, e1, e2, e3, e4]; simp
                rw [rounds_succ]
                go_wp2
                go_returns
                exact ⟨by rw [HK.out]; rfl, by (repeat' (first | (with_reducible exact Below.refl _ _) | (with_reducible assumption) | (with_reducible refine Below.setCell ?_ ?_ _) | (with_reducible refine Below.alloc ?_ ?_ _) | (with_reducible refine below_drewN ?_ _) | (with_reducible refine Below.drew ?_) | (with_reducible exact Nat.le_refl _) | omega | (simp; done) | (simp; omega)))⟩

end Go.Proofs.YtafghanpfnhkpaaDoor
