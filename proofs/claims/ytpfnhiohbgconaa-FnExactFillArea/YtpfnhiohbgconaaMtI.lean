/- Proved here: whether a box has a cell in common with one of a list, of both: meetL. -/
import Derived.Test.YtpfnhiohbgconaaBoxF
import Derived.Test.YtpfnhiohbgconaaKept
import Derived.BigQuiet
namespace Go.Proofs.Ytpfnhiohbgconaa
open Go.RowKit
set_option linter.unusedVariables false
set_option linter.unusedSimpArgs false

def meetB (b c : Bx) : Bool := decide (b.x0 < c.x1 ∧ c.x0 < b.x1 ∧ b.y0 < c.y1 ∧ c.y0 < b.y1)
def meetL (b : Bx) (l : List Bx) : Bool := l.any (meetB b)
theorem meetL_hit {b : Bx} {l : List Bx} {k : Nat} (hk : k < l.length) (h : meetB b (bat l k) = true) : meetL b l = true := by
  unfold meetL
  rw [List.any_eq_true]
  exact ⟨l[k], List.getElem_mem hk, by rw [← bat_get hk]; exact h⟩
theorem meetL_miss {b : Bx} {l : List Bx} (h : ∀ k, k < l.length → meetB b (bat l k) = false) : meetL b l = false := by
  unfold meetL
  rw [List.any_eq_false]
  intro c hc
  obtain ⟨k, hk, rfl⟩ := List.getElem_of_mem hc
  have := h k hk
  rw [bat_get hk] at this
  simpa using this
theorem mt_four {w : World} {k : Nat} {a b c d : Value} {T : TypeId} (h : w.heap[k]? = some (.cells #[a, b, c, d] T)) :
    w.cell? ⟨k, 0, none⟩ = some a ∧ w.cell? ⟨k, 1, none⟩ = some b ∧ w.cell? ⟨k, 2, none⟩ = some c ∧ w.cell? ⟨k, 3, none⟩ = some d ∧ k < w.heap.size := by
  refine ⟨by simp [World.cell?, h], by simp [World.cell?, h], by simp [World.cell?, h], by simp [World.cell?, h], ?_⟩
  rcases Nat.lt_or_ge k w.heap.size with h' | h'
  · exact h'
  · rw [Array.getElem?_eq_none h'] at h; cases h

set_option maxRecDepth 10000 in
set_option maxHeartbeats 4000000 in
theorem impl_meets (b : Bx) {w : World} {v : Value} {l : List Bx} (hn : l.length ≤ 1048576) (h : RB w v l) :
    Calls Try.prog 55 #[.agg #[.int .i64 b.x0, .int .i64 b.y0, .int .i64 b.x1, .int .i64 b.y1], v] w fun e w' => e = .returned (.bool (meetL b l)) ∧ Below w.heap.size w w' := by
  obtain ⟨a, c, rfl⟩ := h.form
  obtain ⟨n, hnn⟩ : ∃ n, n = l.length := ⟨_, rfl⟩
  obtain ⟨R, hRR⟩ : ∃ R, R = meetL b l := ⟨_, rfl⟩
  rw [← hnn] at hn h ⊢
  rw [← hRR]
  have H : Hid (RB w (.slice a n c) l ∧ n = l.length ∧ R = meetL b l) := ⟨h, hnn, hRR⟩
  clear h hnn hRR
  go_enter Try.func55, Try.ntmps55
  go_wp2
  go_loopw [9] (fun i wr => ∃ k : Nat, k ≤ n ∧ i = .int .i64 k ∧ Hid ((∀ j, j < k → meetB b (bat l j) = false) ∧ Below w.heap.size w wr ∧ wr.heap[w.heap.size]? = some (.cells #[.int .i64 b.x0, .int .i64 b.y0, .int .i64 b.x1, .int .i64 b.y1] 30))) (fun i _ => n - (intOf i).toNat)
  case atStart => exact ⟨0, Nat.zero_le _, rfl, fun j hj => by omega, by (repeat' (first | (with_reducible exact Below.refl _ _) | (with_reducible assumption) | (with_reducible refine Below.setCell ?_ ?_ _) | (with_reducible refine Below.alloc ?_ ?_ _) | (with_reducible refine below_drewN ?_ _) | (with_reducible refine Below.drew ?_) | (with_reducible exact Nat.le_refl _) | omega | (simp; done) | (simp; omega))), heap_alloc_new w _⟩
  case round =>
    obtain ⟨k, hk, rfl, hR⟩ := hrel
    obtain ⟨p0, p1, p2, p3, pl⟩ := mt_four hR.out.2.2
    by_cases hlt : k < n
    · have hkl : k < l.length := by rw [← H.out.2.1]; exact hlt
      obtain ⟨g, o, c2, he, hg, hj⟩ := (H.out.1.below hR.out.2.1).pos (by rw [← H.out.2.1]; omega)
      simp only [Value.slice.injEq] at he
      obtain ⟨rfl, hx1, hx2⟩ := he
      clear hx1 hx2
      obtain ⟨c0, c1, c2, c3⟩ := hj k hkl
      obtain ⟨q, hq⟩ : ∃ q, q = bat l k := ⟨_, rfl⟩
      rw [← hq] at c0 c1 c2 c3
      have HQ : Hid (q = bat l k) := hq
      have hsz := hR.out.2.1.size
      have HN : Hid (∀ W, Below wr.heap.size wr W → meetB b q = false → (∀ j, j < k + 1 → meetB b (bat l j) = false) ∧ Below w.heap.size w W ∧ W.heap[w.heap.size]? = some (.cells #[.int .i64 b.x0, .int .i64 b.y0, .int .i64 b.x1, .int .i64 b.y1] 30)) := fun W hW hf => by
        refine ⟨fun j hjk => ?_, hR.out.2.1.trans (hW.mono hsz), (hW.block _ pl).trans hR.out.2.2⟩
        rcases (by omega : j < k ∨ j = k) with e | rfl
        · exact hR.out.1 j e
        · rw [← HQ.out]; exact hf
      clear hq hj
      have b0 : (0 : Int) ≤ (k : Int) := by omega
      have b1 : (k : Int) < (n : Int) := by omega
      by_cases q1 : b.x0 < q.x1
      case neg =>
        have hf : Hid (meetB b q = false) := by unfold Hid meetB; rw [decide_eq_false_iff_not]; omega
        go_wp2
        go_roundw
        case rel => exact ⟨k + 1, by omega, by go_num, HN.out _ (by (repeat' (first | (with_reducible exact Below.refl _ _) | (with_reducible assumption) | (with_reducible refine Below.setCell ?_ ?_ _) | (with_reducible refine Below.alloc ?_ ?_ _) | (with_reducible refine below_drewN ?_ _) | (with_reducible refine Below.drew ?_) | (with_reducible exact Nat.le_refl _) | omega | (simp; done) | (simp; omega)))) hf.out⟩
        case measure => simp [intOf]; omega
      by_cases q2 : q.x0 < b.x1
      case neg =>
        have hf : Hid (meetB b q = false) := by unfold Hid meetB; rw [decide_eq_false_iff_not]; omega
        go_wp2
        go_roundw
        case rel => exact ⟨k + 1, by omega, by go_num, HN.out _ (by (repeat' (first | (with_reducible exact Below.refl _ _) | (with_reducible assumption) | (with_reducible refine Below.setCell ?_ ?_ _) | (with_reducible refine Below.alloc ?_ ?_ _) | (with_reducible refine below_drewN ?_ _) | (with_reducible refine Below.drew ?_) | (with_reducible exact Nat.le_refl _) | omega | (simp; done) | (simp; omega)))) hf.out⟩
        case measure => simp [intOf]; omega
      by_cases q3 : b.y0 < q.y1
      case neg =>
        have hf : Hid (meetB b q = false) := by unfold Hid meetB; rw [decide_eq_false_iff_not]; omega
        go_wp2
        go_roundw
        case rel => exact ⟨k + 1, by omega, by go_num, HN.out _ (by (repeat' (first | (with_reducible exact Below.refl _ _) | (with_reducible assumption) | (with_reducible refine Below.setCell ?_ ?_ _) | (with_reducible refine Below.alloc ?_ ?_ _) | (with_reducible refine below_drewN ?_ _) | (with_reducible refine Below.drew ?_) | (with_reducible exact Nat.le_refl _) | omega | (simp; done) | (simp; omega)))) hf.out⟩
        case measure => simp [intOf]; omega
      by_cases q4 : q.y0 < b.y1
      case neg =>
        have hf : Hid (meetB b q = false) := by unfold Hid meetB; rw [decide_eq_false_iff_not]; omega
        go_wp2
        go_roundw
        case rel => exact ⟨k + 1, by omega, by go_num, HN.out _ (by (repeat' (first | (with_reducible exact Below.refl _ _) | (with_reducible assumption) | (with_reducible refine Below.setCell ?_ ?_ _) | (with_reducible refine Below.alloc ?_ ?_ _) | (with_reducible refine below_drewN ?_ _) | (with_reducible refine Below.drew ?_) | (with_reducible exact Nat.le_refl _) | omega | (simp; done) | (simp; omega)))) hf.out⟩
        case measure => simp [intOf]; omega
      have HE : Hid (R = true) := by
        unfold Hid
        rw [H.out.2.2]
        exact meetL_hit hkl (by rw [← HQ.out]; unfold meetB; rw [decide_eq_true_eq]; exact ⟨q1, q2, q3, q4⟩)
      have HB : Hid (Below w.heap.size w wr) := hR.out.2.1
      go_wp2
      go_returns
      refine ⟨by rw [HE.out]; rfl, ?_⟩
      have hb := HB.out
      (repeat' (first | (with_reducible exact Below.refl _ _) | (with_reducible assumption) | (with_reducible refine Below.setCell ?_ ?_ _) | (with_reducible refine Below.alloc ?_ ?_ _) | (with_reducible refine below_drewN ?_ _) | (with_reducible refine Below.drew ?_) | (with_reducible exact Nat.le_refl _) | omega | (simp; done) | (simp; omega)))
    · have HE : Hid (R = false) := by
        unfold Hid
        rw [H.out.2.2]
        exact meetL_miss fun j hj => hR.out.1 j (by rw [← H.out.2.1] at hj; omega)
      have HB : Hid (Below w.heap.size w wr) := hR.out.2.1
      clear hR
      go_wp2
      go_returns
      exact ⟨by rw [HE.out]; rfl, HB.out⟩

def mnM (a b : Int) : Int := if a < b then a else b
def mxM (a b : Int) : Int := if b < a then a else b
set_option maxHeartbeats 400000 in
theorem spec_mnM (a b : Int) (w : World) : Calls Try.prog 114 #[.int .i64 a, .int .i64 b] w fun e w' => e = .returned (.int .i64 (mnM a b)) ∧ w' = w := by
  unfold mnM
  by_cases h : a < b
  · rw [if_pos h]
    go_enter Try.func114, Try.ntmps114
    go_wp2
    go_returns
    exact ⟨rfl, rfl⟩
  · rw [if_neg h]
    go_enter Try.func114, Try.ntmps114
    go_wp2
    go_returns
    exact ⟨rfl, rfl⟩
set_option maxHeartbeats 400000 in
theorem spec_mxM (a b : Int) (w : World) : Calls Try.prog 115 #[.int .i64 a, .int .i64 b] w fun e w' => e = .returned (.int .i64 (mxM a b)) ∧ w' = w := by
  unfold mxM
  by_cases h : b < a
  · rw [if_pos h]
    go_enter Try.func115, Try.ntmps115
    go_wp2
    go_returns
    exact ⟨rfl, rfl⟩
  · rw [if_neg h]
    go_enter Try.func115, Try.ntmps115
    go_wp2
    go_returns
    exact ⟨rfl, rfl⟩
/-- Of two boxes that are not empty. -/
def OkM (b : Bx) : Prop := b.x0 < b.x1 ∧ b.y0 < b.y1
theorem meetB_mn {a b : Bx} (ha : OkM a) (hb : OkM b) : meetB b a = (decide (mxM a.x0 b.x0 < mnM a.x1 b.x1) && decide (mxM a.y0 b.y0 < mnM a.y1 b.y1)) := by
  unfold OkM at ha hb
  unfold meetB mxM mnM
  rw [← Bool.decide_and, decide_eq_decide]
  constructor
  · intro h; constructor <;> (repeat' split) <;> omega
  · rintro ⟨h1, h2⟩
    (repeat' split at h1) <;> (repeat' split at h2) <;> omega

set_option maxRecDepth 10000 in
set_option maxHeartbeats 4000000 in
theorem spec_meets (a b : Bx) (ha : OkM a) (hb : OkM b) (w : World) : Calls Try.prog 89 #[.agg #[.int .i64 a.x0, .int .i64 a.y0, .int .i64 a.x1, .int .i64 a.y1], .agg #[.int .i64 b.x0, .int .i64 b.y0, .int .i64 b.x1, .int .i64 b.y1]] w fun e w' => e = .returned (.bool (meetB b a)) ∧ Below w.heap.size w w' := by
  obtain ⟨p, hp⟩ : ∃ p, p = mnM a.x1 b.x1 := ⟨_, rfl⟩
  obtain ⟨q, hq⟩ : ∃ q, q = mxM a.x0 b.x0 := ⟨_, rfl⟩
  obtain ⟨r, hr⟩ : ∃ r, r = mnM a.y1 b.y1 := ⟨_, rfl⟩
  obtain ⟨t, ht⟩ : ∃ t, t = mxM a.y0 b.y0 := ⟨_, rfl⟩
  have k1 : Hid (∀ W, Calls Try.prog 114 #[.int .i64 a.x1, .int .i64 b.x1] W fun e w' => e = .returned (.int .i64 p) ∧ w' = W) := fun W => by rw [hp]; exact spec_mnM _ _ W
  have k2 : Hid (∀ W, Calls Try.prog 115 #[.int .i64 a.x0, .int .i64 b.x0] W fun e w' => e = .returned (.int .i64 q) ∧ w' = W) := fun W => by rw [hq]; exact spec_mxM _ _ W
  have k3 : Hid (∀ W, Calls Try.prog 114 #[.int .i64 a.y1, .int .i64 b.y1] W fun e w' => e = .returned (.int .i64 r) ∧ w' = W) := fun W => by rw [hr]; exact spec_mnM _ _ W
  have k4 : Hid (∀ W, Calls Try.prog 115 #[.int .i64 a.y0, .int .i64 b.y0] W fun e w' => e = .returned (.int .i64 t) ∧ w' = W) := fun W => by rw [ht]; exact spec_mxM _ _ W
  have HE : Hid (meetB b a = (decide (q < p) && decide (t < r))) := by unfold Hid; rw [meetB_mn ha hb, hp, hq, hr, ht]
  clear hp hq hr ht ha hb
  by_cases h1 : q < p
  · have d1 : decide (q < p) = true := by simpa using h1
    go_enter Try.func89, Try.ntmps89
    go_wp2_with (fail)
    go_quiet (first | (go_at_call 114; with_reducible refine Calls.quiet_of_same (k1.out _)) | (go_at_call 115; with_reducible refine Calls.quiet_of_same (k2.out _)) | (go_at_call 114; with_reducible refine Calls.quiet_of_same (k3.out _)) | (go_at_call 115; with_reducible refine Calls.quiet_of_same (k4.out _)))
    go_wp2
    go_returns
    refine ⟨?_, by (repeat' (first | (with_reducible exact Below.refl _ _) | (with_reducible assumption) | (with_reducible refine Below.setCell ?_ ?_ _) | (with_reducible refine Below.alloc ?_ ?_ _) | (with_reducible refine below_drewN ?_ _) | (with_reducible refine Below.drew ?_) | (with_reducible exact Nat.le_refl _) | omega | (simp; done) | (simp; omega)))⟩
    rw [HE.out]
    simp [h1]
  · have d1 : decide (q < p) = false := by simpa using h1
    go_enter Try.func89, Try.ntmps89
    go_wp2_with (fail)
    go_quiet (first | (go_at_call 114; with_reducible refine Calls.quiet_of_same (k1.out _)) | (go_at_call 115; with_reducible refine Calls.quiet_of_same (k2.out _)))
    go_wp2
    go_returns
    refine ⟨?_, by (repeat' (first | (with_reducible exact Below.refl _ _) | (with_reducible assumption) | (with_reducible refine Below.setCell ?_ ?_ _) | (with_reducible refine Below.alloc ?_ ?_ _) | (with_reducible refine below_drewN ?_ _) | (with_reducible refine Below.drew ?_) | (with_reducible exact Nat.le_refl _) | omega | (simp; done) | (simp; omega)))⟩
    rw [HE.out, d1]
    rfl

set_option maxRecDepth 10000 in
set_option maxHeartbeats 4000000 in
theorem spec_touches (b : Bx) (hb : OkM b) {w : World} {v : Value} {l : List Bx} (hn : l.length ≤ 1048576) (hl : ∀ c ∈ l, OkM c) (h : RB w v l) :
    Calls Try.prog 46 #[v, .agg #[.int .i64 b.x0, .int .i64 b.y0, .int .i64 b.x1, .int .i64 b.y1]] w fun e w' => e = .returned (.bool (meetL b l)) ∧ Below w.heap.size w w' := by
  obtain ⟨a, c, rfl⟩ := h.form
  obtain ⟨n, hnn⟩ : ∃ n, n = l.length := ⟨_, rfl⟩
  obtain ⟨R, hRR⟩ : ∃ R, R = meetL b l := ⟨_, rfl⟩
  rw [← hnn] at hn h ⊢
  rw [← hRR]
  have H : Hid (RB w (.slice a n c) l ∧ n = l.length ∧ R = meetL b l ∧ OkM b ∧ ∀ c ∈ l, OkM c) := ⟨h, hnn, hRR, hb, hl⟩
  clear h hnn hRR hb hl
  go_enter Try.func46, Try.ntmps46
  go_wp2
  go_loopw [5] (fun i wr => ∃ k : Nat, k ≤ n ∧ i = .int .i64 k ∧ Hid ((∀ j, j < k → meetB b (bat l j) = false) ∧ Below w.heap.size w wr ∧ wr.heap[w.heap.size]? = some (.cells #[.int .i64 b.x0, .int .i64 b.y0, .int .i64 b.x1, .int .i64 b.y1] 30))) (fun i _ => n - (intOf i).toNat)
  case atStart => exact ⟨0, Nat.zero_le _, rfl, fun j hj => by omega, by (repeat' (first | (with_reducible exact Below.refl _ _) | (with_reducible assumption) | (with_reducible refine Below.setCell ?_ ?_ _) | (with_reducible refine Below.alloc ?_ ?_ _) | (with_reducible refine below_drewN ?_ _) | (with_reducible refine Below.drew ?_) | (with_reducible exact Nat.le_refl _) | omega | (simp; done) | (simp; omega))), heap_alloc_new w _⟩
  case round =>
    obtain ⟨k, hk, rfl, hR⟩ := hrel
    obtain ⟨p0, p1, p2, p3, pl⟩ := mt_four hR.out.2.2
    by_cases hlt : k < n
    · have hkl : k < l.length := by rw [← H.out.2.1]; exact hlt
      obtain ⟨g, o, c2, he, hg, hj⟩ := (H.out.1.below hR.out.2.1).pos (by rw [← H.out.2.1]; omega)
      simp only [Value.slice.injEq] at he
      obtain ⟨rfl, hx1, hx2⟩ := he
      clear hx1 hx2
      obtain ⟨c0, c1, c2, c3⟩ := hj k hkl
      obtain ⟨q, hq⟩ : ∃ q, q = bat l k := ⟨_, rfl⟩
      rw [← hq] at c0 c1 c2 c3
      have HQ : Hid (q = bat l k) := hq
      obtain ⟨x, hx⟩ : ∃ x, x = meetB b q := ⟨_, rfl⟩
      have hokq : OkM q := by rw [hq, bat_get hkl]; exact H.out.2.2.2.2 _ (List.getElem_mem hkl)
      have HCL : Hid (∀ W, Calls Try.prog 89 #[.agg #[.int .i64 q.x0, .int .i64 q.y0, .int .i64 q.x1, .int .i64 q.y1], .agg #[.int .i64 b.x0, .int .i64 b.y0, .int .i64 b.x1, .int .i64 b.y1]] W fun e w' => e = .returned (.bool x) ∧ Below W.heap.size W w') := fun W => by rw [hx]; exact spec_meets q b hokq H.out.2.2.2.1 W
      have HX : Hid (x = meetB b q) := hx
      have hsz := hR.out.2.1.size
      have HN : Hid (∀ W, Below wr.heap.size wr W → meetB b q = false → (∀ j, j < k + 1 → meetB b (bat l j) = false) ∧ Below w.heap.size w W ∧ W.heap[w.heap.size]? = some (.cells #[.int .i64 b.x0, .int .i64 b.y0, .int .i64 b.x1, .int .i64 b.y1] 30)) := fun W hW hf => by
        refine ⟨fun j hjk => ?_, hR.out.2.1.trans (hW.mono hsz), (hW.block _ pl).trans hR.out.2.2⟩
        rcases (by omega : j < k ∨ j = k) with e | rfl
        · exact hR.out.1 j e
        · rw [← HQ.out]; exact hf
      have HBR : Hid (Below w.heap.size w wr) := hR.out.2.1
      clear hq hj hx hokq hR
      have b0 : (0 : Int) ≤ (k : Int) := by omega
      have b1 : (k : Int) < (n : Int) := by omega
      go_wp2_with (fail)
      (refine wp_region_und (by kernel_rfl) (by kernel_rfl) (fun hund => ?_); (repeat (go_big_quiet_step (first | (go_at_call 89; with_reducible refine und_call ?_ (HCL.out _); exact Nat.le_refl _)))); with_reducible refine wpQuiet_nil ?_; clear hund; intro W1 hb1; obtain ⟨hc1, hf1⟩ := bcell hb1)
      clear hc1 hf1
      cases x with
      | true =>
        have HE : Hid (R = true) := by
          unfold Hid
          rw [H.out.2.2.1]
          exact meetL_hit hkl (by rw [← HQ.out]; exact HX.out.symm)
        have HB : Hid (Below w.heap.size w W1) := HBR.out.trans (hb1.mono hsz)
        clear hb1
        go_wp2
        go_returns
        exact ⟨by rw [HE.out]; rfl, HB.out⟩
      | false =>
        have HNN : Hid _ := HN.out W1 hb1 HX.out.symm
        clear hb1
        go_wp2
        go_roundw
        case rel => exact ⟨k + 1, by omega, by go_num, HNN.out⟩
        case measure => simp [intOf]; omega
    · have HE : Hid (R = false) := by
        unfold Hid
        rw [H.out.2.2.1]
        exact meetL_miss fun j hj => hR.out.1 j (by rw [← H.out.2.1] at hj; omega)
      have HB : Hid (Below w.heap.size w wr) := hR.out.2.1
      clear hR
      go_wp2
      go_returns
      exact ⟨by rw [HE.out]; rfl, HB.out⟩

end Go.Proofs.Ytpfnhiohbgconaa
