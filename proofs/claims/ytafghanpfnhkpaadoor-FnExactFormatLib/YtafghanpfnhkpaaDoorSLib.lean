/- Proved here: LibFault of the model: libK. -/
import Derived.Test.YtafghanpfnhkpaaDoorLibM
import Derived.Test.YtafghanpfnhkpaaDoorTyOpen
namespace Go.Proofs.YtafghanpfnhkpaaDoor
open Go.RowKit
set_option linter.unusedVariables false
set_option linter.unusedSimpArgs false

/-- What l3Find tells. -/
def FindR (s : List Cl) (n : Nat) (nm : ByteArray) (r : Int) : Prop :=
  (r = -1 ∧ ahB s n nm = false) ∨ ∃ i : Nat, r = (i : Int) ∧ ahB s n nm = true ∧ ∃ h : i < s.length, i < n ∧ s[i].nm = nm ∧ ∀ k (hk : k < s.length), k < i → s[k].nm ≠ nm

set_option maxHeartbeats 1600000 in
theorem spec_find (a : Option Addr) (m c n : Nat) (s : List Cl) (nm : ByteArray) (w : World) (hm : m ≤ 2000000) (hn : n ≤ m) (h : RK w (.slice a m c) s) :
    Calls Tryd.prog 32 #[.slice a m c, .int .i64 (n : Int), .string nm] w fun e w' => ∃ r, e = .returned (.int .i64 r) ∧ FindR s n nm r ∧ w' = w := by
  obtain ⟨rs, hrs, hrel⟩ := h
  have H : Hid (RG 3 rcC w (.slice a m c) rs ∧ RelK w rs s ∧ m = rs.length ∧ m = s.length) := ⟨hrs, hrel, hrs.len, hrs.len.trans hrel.len⟩
  clear hrs hrel
  go_enter Tryd.func32, Tryd.ntmps32
  go_wp2
  go_loop [7] (fun t => ∃ k : Nat, t = .int .i64 k ∧ k ≤ n ∧ Hid (∀ i (hi : i < s.length), i < k → s[i].nm ≠ nm)) (fun t => (2000000 - (intOf t).toNat))
  case atStart => exact ⟨0, rfl, Nat.zero_le _, fun i hi h0 => by omega⟩
  case round =>
    obtain ⟨k, rfl, hk, hg⟩ := hrel
    by_cases hlt : k < n
    · have hkr : k < rs.length := by rw [← H.out.2.2.1]; omega
      have hks : k < s.length := by rw [← H.out.2.2.2]; omega
      obtain ⟨g, o, c2, he, hgl, hj⟩ := H.out.1.pos (by omega)
      simp only [Value.slice.injEq] at he
      obtain ⟨rfl, hx1, hx2⟩ := he
      clear hx1 hx2
      obtain ⟨c0, c1, c2⟩ := rcC_at (hj k hkr)
      have hnm := (H.out.2.1.at_ k hkr hks).nm
      obtain ⟨x, hx⟩ : ∃ x, x = rs[k].nm := ⟨_, rfl⟩
      rw [← hx] at c0 hnm
      have HX : Hid (x = s[k].nm ∧ k < s.length) := ⟨hnm, hks⟩
      clear hx hj c1 c2 hnm
      have b0 : (0 : Int) ≤ (k : Int) := by omega
      have b1 : (k : Int) < (m : Int) := by omega
      by_cases he : x = nm
      · have HF : Hid (FindR s n nm (k : Int)) := Or.inr ⟨k, rfl, by unfold ahB; rw [decide_eq_true_eq, aheadN_pos]; exact ⟨k, HX.out.2, hlt, by rw [← HX.out.1]; exact he⟩, HX.out.2, hlt, by rw [← HX.out.1]; exact he, fun i hi hik => hg.out i hi hik⟩
        subst he
        go_wp2
        go_returns
        exact ⟨_, rfl, HF.out, rfl⟩
      · have HG : Hid (∀ i (hi : i < s.length), i < k + 1 → s[i].nm ≠ nm) := fun i hi hik => by
          rcases (by omega : i < k ∨ i = k) with e | rfl
          · exact hg.out i hi e
          · rw [← HX.out.1]; exact he
        have hne := str_ne he
        clear he
        go_wp2
        go_round
        case rel => exact ⟨k + 1, by go_num, by omega, HG.out⟩
        case measure => simp [intOf]; omega
    · have HF : Hid (FindR s n nm (-1)) := Or.inl ⟨rfl, by
        unfold ahB
        rw [decide_eq_false_iff_not, aheadN_pos]
        rintro ⟨i, hi, hin, e⟩
        exact hg.out i hi (by omega) e⟩
      go_wp2
      go_returns
      exact ⟨_, rfl, HF.out, rfl⟩

set_option maxHeartbeats 800000 in
theorem spec_far (n : Int) (w : World) : Calls Tryd.prog 47 #[.int .i64 n] w fun e w' => e = .returned (.bool (farN n)) ∧ w' = w := by
  have H : Hid ((n < -10000 → farN n = true) ∧ (10000 < n → farN n = true) ∧ (¬ n < -10000 → ¬ 10000 < n → farN n = false)) := by
    unfold Hid farN
    exact ⟨fun h => by simp [h], fun h => by simp [h], fun h1 h2 => by simp [h1, h2]⟩
  generalize farN n = r at H ⊢
  rcases (by omega : n < -10000 ∨ (¬ n < -10000 ∧ 10000 < n) ∨ (¬ n < -10000 ∧ ¬ 10000 < n)) with h | ⟨h1, h2⟩ | ⟨h1, h2⟩
  · obtain rfl := H.out.1 h
    go_enter Tryd.func47, Tryd.ntmps47
    go_wp2
    go_returns
    exact ⟨rfl, rfl⟩
  · obtain rfl := H.out.2.1 h2
    go_enter Tryd.func47, Tryd.ntmps47
    go_wp2
    go_returns
    exact ⟨rfl, rfl⟩
  · obtain rfl := H.out.2.2 h1 h2
    go_enter Tryd.func47, Tryd.ntmps47
    go_wp2
    go_returns
    exact ⟨rfl, rfl⟩

set_option maxRecDepth 10000 in
set_option maxHeartbeats 6400000 in
theorem spec_place (a : Option Addr) (m c n : Nat) (s : List Cl) (p : Pl) (w : World) (hm : m ≤ 2000000) (hn : n ≤ m) (h : RK w (.slice a m c) s) :
    Calls Tryd.prog 34 #[.slice a m c, .int .i64 (n : Int), .agg #[.string p.c, .int .i64 p.x, .int .i64 p.y, .int .i64 p.t, .bool p.f, .int .i64 p.nx, .int .i64 p.ny, .int .i64 p.dx, .int .i64 p.dy]] w fun e w' => e = .returned (.int .i64 (plK (ahB s n p.c) p)) ∧ Below w.heap.size w w' := by
  have HF : Hid (∀ W, Below w.heap.size w W → Calls Tryd.prog 32 #[.slice a m c, .int .i64 (n : Int), .string p.c] W fun e w' => ∃ r, e = .returned (.int .i64 r) ∧ FindR s n p.c r ∧ w' = W) := fun W hb => spec_find a m c n s p.c W hm hn (h.below hb)
  clear h
  obtain ⟨ah, hah⟩ : ∃ ah, ah = ahB s n p.c := ⟨_, rfl⟩
  have HAH : Hid (ah = ahB s n p.c) := hah
  rw [← hah]
  clear hah
  have HP : Hid ((ah = false → plK ah p = 4) ∧ (ah = true → ¬ (0 ≤ p.t ∧ p.t ≤ 3 ∧ 1 ≤ p.nx ∧ p.nx ≤ 20 ∧ 1 ≤ p.ny ∧ p.ny ≤ 20) → plK ah p = 1) ∧ (ah = true → (0 ≤ p.t ∧ p.t ≤ 3 ∧ 1 ≤ p.nx ∧ p.nx ≤ 20 ∧ 1 ≤ p.ny ∧ p.ny ≤ 20) → plK ah p = if farN p.x = true ∨ farN p.y = true ∨ farN p.dx = true ∨ farN p.dy = true then 3 else 0)) := by
    unfold Hid plK inN
    refine ⟨fun h => by simp [h], fun h1 h2 => ?_, fun h1 h2 => ?_⟩
    · rw [if_neg (by simp [h1]), if_neg]
      simp only [Bool.and_eq_true, decide_eq_true_eq]
      omega
    · rw [if_neg (by simp [h1]), if_pos]
      simp only [Bool.and_eq_true, decide_eq_true_eq]
      omega
  generalize plK ah p = K at HP ⊢
  have hfx := fun w => spec_far p.x w
  have hfy := fun w => spec_far p.y w
  have hfdx := fun w => spec_far p.dx w
  have hfdy := fun w => spec_far p.dy w
  have hbw : Hid (Below w.heap.size w (w.alloc (.cells #[.string p.c, .int .i64 p.x, .int .i64 p.y, .int .i64 p.t, .bool p.f, .int .i64 p.nx, .int .i64 p.ny, .int .i64 p.dx, .int .i64 p.dy] 45))) := (Below.refl _ _).alloc (Nat.le_refl _) _
  cases hac : ah with
  | false =>
    obtain rfl := HP.out.1 hac
    go_enter Tryd.func34, Tryd.ntmps34
    go_wp2_with (fail)
    refine (HF.out _ hbw.out).mono ?_
    rintro e w1 ⟨r, rfl, hr, rfl⟩
    have hr0 : r < 0 := by
      rcases hr with ⟨rfl, _⟩ | ⟨i, rfl, h2, _⟩
      · omega
      · rw [← HAH.out, hac] at h2; cases h2
    clear hr
    go_wp2
    go_returns
    exact ⟨rfl, by (repeat' (first | (with_reducible exact Below.refl _ _) | (with_reducible assumption) | (with_reducible refine Below.setCell ?_ ?_ _) | (with_reducible refine Below.alloc ?_ ?_ _) | (with_reducible refine below_drewN ?_ _) | (with_reducible refine Below.drew ?_) | (with_reducible exact Nat.le_refl _) | omega | (simp; done) | (simp; omega)))⟩
  | true =>
    by_cases hin : 0 ≤ p.t ∧ p.t ≤ 3 ∧ 1 ≤ p.nx ∧ p.nx ≤ 20 ∧ 1 ≤ p.ny ∧ p.ny ≤ 20
    · have hK := HP.out.2.2 hac hin
      obtain ⟨i1, i2, i3, i4, i5, i6⟩ := hin
      have HK : Hid _ := hK
      clear hK
      go_enter Tryd.func34, Tryd.ntmps34
      go_wp2_with (fail)
      refine (HF.out _ hbw.out).mono ?_
      rintro e w1 ⟨r, rfl, hr, rfl⟩
      have hr0 : ¬ r < 0 := by
        rcases hr with ⟨_, h2⟩ | ⟨i, rfl, h2, _⟩
        · rw [← HAH.out, hac] at h2; cases h2
        · omega
      clear hr
      cases f1 : farN p.x with
      | true =>
        have hK3 : Hid (K = 3) := by unfold Hid; rw [HK.out, f1]; simp
        rw [f1] at hfx
        go_wp2_with (fail)
        refine (hfx _).mono ?_
        rintro e w2 ⟨rfl, rfl⟩
        go_wp2
        go_returns
        exact ⟨by rw [hK3.out]; rfl, by (repeat' (first | (with_reducible exact Below.refl _ _) | (with_reducible assumption) | (with_reducible refine Below.setCell ?_ ?_ _) | (with_reducible refine Below.alloc ?_ ?_ _) | (with_reducible refine below_drewN ?_ _) | (with_reducible refine Below.drew ?_) | (with_reducible exact Nat.le_refl _) | omega | (simp; done) | (simp; omega)))⟩
      | false =>
        rw [f1] at hfx
        cases f2 : farN p.y with
        | true =>
          have hK3 : Hid (K = 3) := by unfold Hid; rw [HK.out, f2]; simp
          rw [f2] at hfy
          go_wp2_with (fail)
          refine (hfx _).mono ?_
          rintro e w2 ⟨rfl, rfl⟩
          go_wp2_with (fail)
          refine (hfy _).mono ?_
          rintro e w2 ⟨rfl, rfl⟩
          go_wp2
          go_returns
          exact ⟨by rw [hK3.out]; rfl, by (repeat' (first | (with_reducible exact Below.refl _ _) | (with_reducible assumption) | (with_reducible refine Below.setCell ?_ ?_ _) | (with_reducible refine Below.alloc ?_ ?_ _) | (with_reducible refine below_drewN ?_ _) | (with_reducible refine Below.drew ?_) | (with_reducible exact Nat.le_refl _) | omega | (simp; done) | (simp; omega)))⟩
        | false =>
          rw [f2] at hfy
          cases f3 : farN p.dx with
          | true =>
            have hK3 : Hid (K = 3) := by unfold Hid; rw [HK.out, f3]; simp
            rw [f3] at hfdx
            go_wp2_with (fail)
            refine (hfx _).mono ?_
            rintro e w2 ⟨rfl, rfl⟩
            go_wp2_with (fail)
            refine (hfy _).mono ?_
            rintro e w2 ⟨rfl, rfl⟩
            go_wp2_with (fail)
            refine (hfdx _).mono ?_
            rintro e w2 ⟨rfl, rfl⟩
            go_wp2
            go_returns
            exact ⟨by rw [hK3.out]; rfl, by (repeat' (first | (with_reducible exact Below.refl _ _) | (with_reducible assumption) | (with_reducible refine Below.setCell ?_ ?_ _) | (with_reducible refine Below.alloc ?_ ?_ _) | (with_reducible refine below_drewN ?_ _) | (with_reducible refine Below.drew ?_) | (with_reducible exact Nat.le_refl _) | omega | (simp; done) | (simp; omega)))⟩
          | false =>
            rw [f3] at hfdx
            have hK3 : Hid (K = if farN p.dy = true then 3 else 0) := by unfold Hid; rw [HK.out, f1, f2, f3]; simp
            cases f4 : farN p.dy with
            | true =>
              have hK4 : Hid (K = 3) := by unfold Hid; rw [hK3.out, f4]; simp
              rw [f4] at hfdy
              go_wp2_with (fail)
              refine (hfx _).mono ?_
              rintro e w2 ⟨rfl, rfl⟩
              go_wp2_with (fail)
              refine (hfy _).mono ?_
              rintro e w2 ⟨rfl, rfl⟩
              go_wp2_with (fail)
              refine (hfdx _).mono ?_
              rintro e w2 ⟨rfl, rfl⟩
              go_wp2_with (fail)
              refine (hfdy _).mono ?_
              rintro e w2 ⟨rfl, rfl⟩
              go_wp2
              go_returns
              exact ⟨by rw [hK4.out]; rfl, by (repeat' (first | (with_reducible exact Below.refl _ _) | (with_reducible assumption) | (with_reducible refine Below.setCell ?_ ?_ _) | (with_reducible refine Below.alloc ?_ ?_ _) | (with_reducible refine below_drewN ?_ _) | (with_reducible refine Below.drew ?_) | (with_reducible exact Nat.le_refl _) | omega | (simp; done) | (simp; omega)))⟩
            | false =>
              have hK4 : Hid (K = 0) := by unfold Hid; rw [hK3.out, f4]; simp
              rw [f4] at hfdy
              go_wp2_with (fail)
              refine (hfx _).mono ?_
              rintro e w2 ⟨rfl, rfl⟩
              go_wp2_with (fail)
              refine (hfy _).mono ?_
              rintro e w2 ⟨rfl, rfl⟩
              go_wp2_with (fail)
              refine (hfdx _).mono ?_
              rintro e w2 ⟨rfl, rfl⟩
              go_wp2_with (fail)
              refine (hfdy _).mono ?_
              rintro e w2 ⟨rfl, rfl⟩
              go_wp2
              go_returns
              exact ⟨by rw [hK4.out]; rfl, by (repeat' (first | (with_reducible exact Below.refl _ _) | (with_reducible assumption) | (with_reducible refine Below.setCell ?_ ?_ _) | (with_reducible refine Below.alloc ?_ ?_ _) | (with_reducible refine below_drewN ?_ _) | (with_reducible refine Below.drew ?_) | (with_reducible exact Nat.le_refl _) | omega | (simp; done) | (simp; omega)))⟩
    · obtain rfl := HP.out.2.1 hac hin
      go_enter Tryd.func34, Tryd.ntmps34
      go_wp2_with (fail)
      refine (HF.out _ hbw.out).mono ?_
      rintro e w1 ⟨r, rfl, hr, rfl⟩
      have hr0 : ¬ r < 0 := by
        rcases hr with ⟨_, h2⟩ | ⟨i, rfl, h2, _⟩
        · rw [← HAH.out, hac] at h2; cases h2
        · omega
      clear hr
      go_wp2_with (fail)
      all_goals first
        | (exfalso; omega)
        | (go_wp2; go_returns; exact ⟨rfl, by (repeat' (first | (with_reducible exact Below.refl _ _) | (with_reducible assumption) | (with_reducible refine Below.setCell ?_ ?_ _) | (with_reducible refine Below.alloc ?_ ?_ _) | (with_reducible refine below_drewN ?_ _) | (with_reducible refine Below.drew ?_) | (with_reducible exact Nat.le_refl _) | omega | (simp; done) | (simp; omega)))⟩)
        | (go_returns; exact ⟨rfl, by (repeat' (first | (with_reducible exact Below.refl _ _) | (with_reducible assumption) | (with_reducible refine Below.setCell ?_ ?_ _) | (with_reducible refine Below.alloc ?_ ?_ _) | (with_reducible refine below_drewN ?_ _) | (with_reducible refine Below.drew ?_) | (with_reducible exact Nat.le_refl _) | omega | (simp; done) | (simp; omega)))⟩)

end Go.Proofs.YtafghanpfnhkpaaDoor
