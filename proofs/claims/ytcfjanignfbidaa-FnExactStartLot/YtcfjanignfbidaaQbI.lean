/- Proved here: the small functions of the program's BookFault: a window's fault, whether an id is new, wafers laid into a map. -/
import Derived.Test.YtcfjanignfbidaaQbM
import Derived.Test.YtcfjanignfbidaaInsC
import Derived.Maps.AppendAt
namespace Go.Proofs.Ytcfjanignfbidaa
open Go.RowKit Go.Maps
set_option linter.unusedVariables false
set_option linter.unusedSimpArgs false

theorem lp_ty : Try.prog.underlying 68 = some (.map 2 3) := Try.underlying68
theorem wl_ty : Try.prog.underlying 74 = some (.map 2 2) := Try.underlying74
theorem in_ty : Try.prog.underlying 3 = some (.int .i64) := Try.underlying3
theorem i6_ty : Try.prog.underlying 2 = some (.int .i64) := Try.underlying2
theorem in_zero (w : World) : (zeroValue 3).run Try.prog w = .ok (.int .i64 0) w := by kernel_rfl
theorem i6_zero (w : World) : (zeroValue 2).run Try.prog w = .ok (.int .i64 0) w := by kernel_rfl

set_option maxHeartbeats 1600000 in
theorem impl_has {w : World} {b n : Nat} {f : Int → Option Int} {x : Int} (hx : (Lit.int .i64 x).wf = true) (h : IM 3 w b n f) :
    Calls Try.prog 73 #[.map (some b), .int .i64 x] w fun e w' => e = .returned (.bool (f x).isSome) ∧ w' = w := by
  have hl := h.look_ok lp_ty in_ty (in_zero w) hx
  obtain ⟨v, hv⟩ : ∃ v, v = (f x).getD 0 := ⟨_, rfl⟩
  obtain ⟨o, ho⟩ : ∃ v, v = (f x).isSome := ⟨_, rfl⟩
  rw [← hv, ← ho] at hl
  rw [← ho]
  clear hv ho hx h
  go_enter Try.func73, Try.ntmps73
  go_wp2
  go_returns
  exact ⟨rfl, rfl⟩

set_option maxHeartbeats 1600000 in
theorem impl_mbn {w : World} {b n : Nat} {f : Int → Option Int} {x : Int} (h : IM 3 w b n f) (r : Bool) (hr : r = (decide (1 ≤ x ∧ x ≤ 1000000) && !(f x).isSome)) :
    Calls Try.prog 43 #[.map (some b), .int .i64 x] w fun e w' => e = .returned (.bool r) ∧ w' = w := by
  have HI : Hid (∀ W q, q = decide (1 ≤ x ∧ x ≤ 1000000) → Calls Try.prog 62 #[.int .i64 x, .int .i64 1, .int .i64 1000000] W fun e w' => e = .returned (.bool q) ∧ w' = W) := fun W q hq => impl_insC x 1 1000000 q hq W
  by_cases h1 : 1 ≤ x ∧ x ≤ 1000000
  · obtain ⟨o, ho⟩ : ∃ v, v = (f x).isSome := ⟨_, rfl⟩
    have HH : Hid (Calls Try.prog 73 #[.map (some b), .int .i64 x] w fun e w' => e = .returned (.bool o) ∧ w' = w) := by rw [ho]; exact impl_has (wf64 (by omega)) h
    have HR : Hid (r = !o) := by unfold Hid; rw [hr, ← ho, decide_eq_true h1]; rfl
    have HD : Hid (true = decide (1 ≤ x ∧ x ≤ 1000000)) := by unfold Hid; rw [decide_eq_true h1]
    clear h hr ho h1
    go_enter Try.func43, Try.ntmps43
    go_wp2_with (fail)
    refine (HI.out _ true HD.out).mono ?_
    rintro e w1 ⟨rfl, hw1⟩
    subst w1
    go_wp2_with (fail)
    refine HH.out.mono ?_
    rintro e w1 ⟨rfl, hw1⟩
    subst w1
    go_wp2
    go_returns
    exact ⟨by rw [HR.out]; rfl, rfl⟩
  · have HR : Hid (r = false) := by unfold Hid; rw [hr, decide_eq_false h1]; rfl
    have HD : Hid (false = decide (1 ≤ x ∧ x ≤ 1000000)) := by unfold Hid; rw [decide_eq_false h1]
    clear h hr h1
    go_enter Try.func43, Try.ntmps43
    go_wp2_with (fail)
    refine (HI.out _ false HD.out).mono ?_
    rintro e w1 ⟨rfl, hw1⟩
    subst w1
    go_wp2
    go_returns
    exact ⟨by rw [HR.out]; rfl, rfl⟩

set_option maxHeartbeats 3200000 in
theorem impl_wdf (x : Wdw) (st : Int) (w : World) :
    Calls Try.prog 82 #[.agg #[.int .i64 x.f, .int .i64 x.t, .int .i64 x.m], .int .i64 st] w fun e w' => e = .returned (.int .i64 (wdK st x)) ∧ Below w.heap.size w w' := by
  have HI : Hid (∀ W q, q = decide (0 ≤ x.m ∧ x.m ≤ 1000000000) → Calls Try.prog 62 #[.int .i64 x.m, .int .i64 0, .int .i64 1000000000] W fun e w' => e = .returned (.bool q) ∧ w' = W) := fun W q hq => impl_insC x.m 0 1000000000 q hq W
  obtain ⟨f, t, m⟩ := x
  simp only at HI ⊢
  have HK : Hid ((f < 0 ∨ t ≤ f ∨ st ≤ t → wdK st ⟨f, t, m⟩ = 1) ∧ (¬ (f < 0 ∨ t ≤ f ∨ st ≤ t) → (0 ≤ m ∧ m ≤ 1000000000) → wdK st ⟨f, t, m⟩ = 0) ∧ (¬ (f < 0 ∨ t ≤ f ∨ st ≤ t) → ¬ (0 ≤ m ∧ m ≤ 1000000000) → wdK st ⟨f, t, m⟩ = 3)) := by
    unfold Hid wdK
    exact ⟨fun h => by rw [if_pos h], fun h1 h2 => by rw [if_neg h1, if_pos h2], fun h1 h2 => by rw [if_neg h1, if_neg h2]⟩
  obtain ⟨K, hK⟩ : ∃ K, K = wdK st ⟨f, t, m⟩ := ⟨_, rfl⟩
  rw [← hK] at HK ⊢
  clear hK
  by_cases h1 : f < 0
  · have HR : Hid (K = 1) := HK.out.1 (Or.inl h1)
    clear HK HI
    go_enter Try.func82, Try.ntmps82
    go_wp2
    go_returns
    exact ⟨by rw [HR.out]; rfl, by (repeat' (first | (with_reducible exact Below.refl _ _) | (with_reducible assumption) | (with_reducible refine Below.setCell ?_ ?_ _) | (with_reducible refine Below.alloc ?_ ?_ _) | (with_reducible refine below_drewN ?_ _) | (with_reducible refine Below.drew ?_) | (with_reducible exact Nat.le_refl _) | omega | (simp; done) | (simp; omega)))⟩
  by_cases h2 : t ≤ f
  · have HR : Hid (K = 1) := HK.out.1 (Or.inr (Or.inl h2))
    clear HK HI
    go_enter Try.func82, Try.ntmps82
    go_wp2
    go_returns
    exact ⟨by rw [HR.out]; rfl, by (repeat' (first | (with_reducible exact Below.refl _ _) | (with_reducible assumption) | (with_reducible refine Below.setCell ?_ ?_ _) | (with_reducible refine Below.alloc ?_ ?_ _) | (with_reducible refine below_drewN ?_ _) | (with_reducible refine Below.drew ?_) | (with_reducible exact Nat.le_refl _) | omega | (simp; done) | (simp; omega)))⟩
  by_cases h3 : st ≤ t
  · have HR : Hid (K = 1) := HK.out.1 (Or.inr (Or.inr h3))
    clear HK HI
    go_enter Try.func82, Try.ntmps82
    go_wp2
    go_returns
    exact ⟨by rw [HR.out]; rfl, by (repeat' (first | (with_reducible exact Below.refl _ _) | (with_reducible assumption) | (with_reducible refine Below.setCell ?_ ?_ _) | (with_reducible refine Below.alloc ?_ ?_ _) | (with_reducible refine below_drewN ?_ _) | (with_reducible refine Below.drew ?_) | (with_reducible exact Nat.le_refl _) | omega | (simp; done) | (simp; omega)))⟩
  by_cases h4 : 0 ≤ m ∧ m ≤ 1000000000
  · have HR : Hid (K = 0) := HK.out.2.1 (by omega) h4
    have HD : Hid (true = decide (0 ≤ m ∧ m ≤ 1000000000)) := by unfold Hid; rw [decide_eq_true h4]
    clear HK h4
    go_enter Try.func82, Try.ntmps82
    go_wp2_with (fail)
    refine (HI.out _ true HD.out).mono ?_
    rintro e w1 ⟨rfl, hw1⟩
    subst w1
    go_wp2
    go_returns
    exact ⟨by rw [HR.out]; rfl, by (repeat' (first | (with_reducible exact Below.refl _ _) | (with_reducible assumption) | (with_reducible refine Below.setCell ?_ ?_ _) | (with_reducible refine Below.alloc ?_ ?_ _) | (with_reducible refine below_drewN ?_ _) | (with_reducible refine Below.drew ?_) | (with_reducible exact Nat.le_refl _) | omega | (simp; done) | (simp; omega)))⟩
  · have HR : Hid (K = 3) := HK.out.2.2 (by omega) h4
    have HD : Hid (false = decide (0 ≤ m ∧ m ≤ 1000000000)) := by unfold Hid; rw [decide_eq_false h4]
    clear HK h4
    go_enter Try.func82, Try.ntmps82
    go_wp2_with (fail)
    refine (HI.out _ false HD.out).mono ?_
    rintro e w1 ⟨rfl, hw1⟩
    subst w1
    go_wp2
    go_returns
    exact ⟨by rw [HR.out]; rfl, by (repeat' (first | (with_reducible exact Below.refl _ _) | (with_reducible assumption) | (with_reducible refine Below.setCell ?_ ?_ _) | (with_reducible refine Below.alloc ?_ ?_ _) | (with_reducible refine below_drewN ?_ _) | (with_reducible refine Below.drew ?_) | (with_reducible exact Nat.le_refl _) | omega | (simp; done) | (simp; omega)))⟩

/-- The map behind the wafers xs. -/
def putW (f : Int → Option Int) (id : Int) (xs : List Int) (x : Int) : Option Int := if x ∈ xs then some id else f x
theorem putW_step (f : Int → Option Int) (id : Int) (xs : List Int) (y x : Int) : (if y = x then some id else putW f id xs x) = putW f id (xs ++ [y]) x := by
  unfold putW
  by_cases h : y = x
  · subst h; simp
  · rw [if_neg h]
    by_cases h2 : x ∈ xs
    · simp [h2]
    · rw [if_neg h2, if_neg (by simp [h2]; exact fun e => h e.symm)]

set_option maxRecDepth 10000 in
set_option maxHeartbeats 3200000 in
theorem impl_put {w : World} {b n c bn : Nat} {a : Option Addr} {f : Int → Option Int} {id : Int} {xs pre : List Int} (hid : (Lit.int .i64 id).wf = true) (hx : xs.length ≤ 1000) (hb : bn ≤ 900000) (hf : ∀ x, (f x).isSome = decide (x ∈ pre)) (hr : RdI w (.slice a n c) xs) (h : IM 2 w b bn f) (hab : ∀ g o, a = some ⟨g, o, none⟩ → 0 < xs.length → g ≠ b) :
    Calls Try.prog 45 #[.map (some b), .slice a n c, .int .i64 id] w fun e w' => e = .returned (.int .i64 (wfC pre xs)) ∧ (wfC pre xs = 0 → IM 2 w' b (bn + xs.length) (putW f id xs)) ∧ w.grownBy w' (some b) := by
  obtain ⟨K, hK⟩ : ∃ K, K = wfC pre xs := ⟨_, rfl⟩
  have hnn : n = xs.length := hr.len
  rw [← hK]
  have H : Hid (RdI w (.slice a n c) xs ∧ n = xs.length ∧ (∀ x, (f x).isSome = decide (x ∈ pre)) ∧ (Lit.int .i64 id).wf = true ∧ K = wfC pre xs ∧ (∀ g o, a = some ⟨g, o, none⟩ → 0 < xs.length → g ≠ b) ∧ b < w.heap.size) := ⟨hr, hnn, hf, hid, hK, hab, h.lt⟩
  have HI : Hid (∀ (y : Int) W q, q = decide (1 ≤ y ∧ y ≤ 1000000) → Calls Try.prog 62 #[.int .i64 y, .int .i64 1, .int .i64 1000000] W fun e w' => e = .returned (.bool q) ∧ w' = W) := fun y W q hq => impl_insC y 1 1000000 q hq W
  have HS : Hid (wfC (pre ++ xs.take 0) (xs.drop 0) = K ∧ wfC pre (xs.take 0) = 0 ∧ IM 2 w b (bn + 0) (putW f id (xs.take 0)) ∧ w.grownBy w (some b)) := ⟨by rw [hK]; simp, by simp [wfC], h.conv (fun x => by simp [putW]), Go.World.grownBy.refl w _⟩
  have hn : n ≤ 1000 := by omega
  clear hid hx hf hr h hab hK hnn
  go_enter Try.func45, Try.ntmps45
  go_wp2
  go_loopw [13] (fun i wr => ∃ j : Nat, j ≤ n ∧ i = .int .i64 j ∧ Hid (wfC (pre ++ xs.take j) (xs.drop j) = K ∧ wfC pre (xs.take j) = 0 ∧ IM 2 wr b (bn + j) (putW f id (xs.take j)) ∧ w.grownBy wr (some b))) (fun i _ => n - (intOf i).toNat)
  case atStart => exact ⟨0, Nat.zero_le _, rfl, HS.out⟩
  case round =>
    clear HS
    obtain ⟨j, hjn, rfl, hR⟩ := hrel
    by_cases hlt : j < n
    · have hjl : j < xs.length := by rw [← H.out.2.1]; exact hlt
      obtain ⟨g, o, rfl, hg, hc⟩ := rd_at H.out.1 hlt
      have hgb : g ≠ b := H.out.2.2.2.2.2.1 g o rfl (by omega)
      have hc' : wr.cell? ⟨g, o + j, none⟩ = some (.int .i64 (xs.getD j 0)) := by
        have e := hR.out.2.2.2.block g hg (fun e => hgb (by injection e with e))
        simp only [World.cell?] at hc ⊢
        rw [e]; exact hc
      have hgl : g < wr.heap.size := Nat.lt_of_lt_of_le hg hR.out.2.2.2.size
      obtain ⟨y, hy⟩ : ∃ y, y = xs.getD j 0 := ⟨_, rfl⟩
      have hyj : xs[j] = y := by rw [hy]; simp [List.getD, hjl]
      rw [← hy] at hc'
      have hdrop : wfC (pre ++ xs.take j) (xs.drop j) = if 1 ≤ y ∧ y ≤ 1000000 then (if y ∈ pre ++ xs.take j then 7 else wfC (pre ++ xs.take (j + 1)) (xs.drop (j + 1))) else 3 := by
        rw [List.drop_eq_getElem_cons hjl, wfC, hyj, List.append_assoc, show xs.take j ++ [y] = xs.take (j + 1) from by rw [← hyj, List.take_append_getElem]]
      have htake : xs.take j ++ [y] = xs.take (j + 1) := by rw [← hyj, List.take_append_getElem]
      have HT : Hid (xs.take j ++ [y] = xs.take (j + 1) ∧ j < xs.length) := ⟨htake, hjl⟩
      have hK := hR.out.1
      rw [hdrop] at hK
      clear hc hy hyj hdrop htake hjl hgb
      have b0 : (0 : Int) ≤ (j : Int) := by omega
      have b1 : (j : Int) < (n : Int) := by omega
      by_cases h1 : 1 ≤ y ∧ y ≤ 1000000
      · rw [if_pos h1] at hK
        have hyw : (Lit.int .i64 y).wf = true := wf64 (by omega)
        have hl := hR.out.2.2.1.look_ok wl_ty i6_ty (i6_zero wr) hyw
        obtain ⟨v, hv⟩ : ∃ v, v = (putW f id (xs.take j) y).getD 0 := ⟨_, rfl⟩
        have hsome : (putW f id (xs.take j) y).isSome = decide (y ∈ pre ++ xs.take j) := by
          unfold putW
          by_cases e : y ∈ xs.take j
          · rw [if_pos e]; simp [e]
          · rw [if_neg e, H.out.2.2.1]; simp [e]
        rw [hsome, ← hv] at hl
        have HD : Hid (true = decide (1 ≤ y ∧ y ≤ 1000000)) := by unfold Hid; rw [decide_eq_true h1]
        have HY : Hid (1 ≤ y ∧ y ≤ 1000000) := h1
        clear hv hsome h1
        by_cases h2 : y ∈ pre ++ xs.take j
        · rw [if_pos h2] at hK
          rw [decide_eq_true h2] at hl
          have HK : Hid (7 = K ∧ w.grownBy wr (some b)) := ⟨hK, hR.out.2.2.2⟩
          clear hK h2 hR hyw
          go_wp2_with (fail)
          refine (HI.out y _ true HD.out).mono ?_
          rintro e w2 ⟨rfl, hw2⟩
          subst w2
          go_wp2
          go_returns
          exact ⟨by rw [← HK.out.1]; rfl, fun h => (by rw [← HK.out.1] at h; cases h), HK.out.2⟩
        · rw [if_neg h2] at hK
          rw [decide_eq_false h2] at hl
          obtain ⟨w3, hu, hI3, hg3⟩ := hR.out.2.2.1.put wl_ty i6_ty (by omega) hyw H.out.2.2.2.1
          have HN : Hid (wfC (pre ++ xs.take (j + 1)) (xs.drop (j + 1)) = K ∧ wfC pre (xs.take (j + 1)) = 0 ∧ IM 2 w3 b (bn + (j + 1)) (putW f id (xs.take (j + 1))) ∧ w.grownBy w3 (some b)) := by
            refine ⟨hK, ?_, ?_, hR.out.2.2.2.trans hg3⟩
            · rw [← HT.out.1, wfC_miss _ hR.out.2.1, wfC, if_pos HY.out, if_neg h2]; rfl
            · rw [← HT.out.1]
              exact (hI3.conv fun x => putW_step f id (xs.take j) y x)
          clear hK h2 hR hyw hI3 hg3 HY
          go_wp2_with (fail)
          refine (HI.out y _ true HD.out).mono ?_
          rintro e w2 ⟨rfl, hw2⟩
          subst w2
          go_wp2
          go_roundw
          case rel => exact ⟨j + 1, by omega, by go_num, HN.out⟩
          case measure => simp [intOf]; omega
      · rw [if_neg h1] at hK
        have HD : Hid (false = decide (1 ≤ y ∧ y ≤ 1000000)) := by unfold Hid; rw [decide_eq_false h1]
        have HK : Hid (3 = K ∧ w.grownBy wr (some b)) := ⟨hK, hR.out.2.2.2⟩
        clear hK h1 hR
        go_wp2_with (fail)
        refine (HI.out y _ false HD.out).mono ?_
        rintro e w2 ⟨rfl, hw2⟩
        subst w2
        go_wp2
        go_returns
        exact ⟨by rw [← HK.out.1]; rfl, fun h => (by rw [← HK.out.1] at h; cases h), HK.out.2⟩
    · obtain rfl : j = n := by omega
      have HK : Hid (0 = K ∧ IM 2 wr b (bn + xs.length) (putW f id xs) ∧ w.grownBy wr (some b)) := by
        have e1 := hR.out.1
        have e2 := hR.out.2.2.1
        rw [H.out.2.1] at e1 e2
        rw [List.drop_length, wfC] at e1
        rw [List.take_length] at e2
        exact ⟨e1, e2, hR.out.2.2.2⟩
      clear hR
      go_wp2
      go_returns
      exact ⟨by rw [← HK.out.1]; rfl, fun _ => HK.out.2.1, HK.out.2.2⟩

end Go.Proofs.Ytcfjanignfbidaa
