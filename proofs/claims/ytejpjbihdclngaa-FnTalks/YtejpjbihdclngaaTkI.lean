/- Proved here: a step of a talk, of the program: tkN. -/
import Derived.Test.YtejpjbihdclngaaTkM
import Derived.Deep.Cut
namespace Go.Proofs.Ytejpjbihdclngaa
open Go.RowKit
set_option linter.unusedVariables false
set_option linter.unusedSimpArgs false

set_option maxHeartbeats 3200000 in
theorem impl_again (p t q : Int) (ht : -9223372036854775808 ≤ t) (w : World) :
    Calls Try.prog 60 #[.agg #[.int .i64 p, .int .i64 t, .int .i64 q]] w fun r w' => r = .returned (.agg #[.int .i64 (tkA ⟨p, t, q⟩).1.p, .int .i64 (tkA ⟨p, t, q⟩).1.t, .int .i64 (tkA ⟨p, t, q⟩).1.w, .bool (tkA ⟨p, t, q⟩).2]) ∧ Below w.heap.size w w' := by
  by_cases hh : 3 ≤ t
  · go_enter Try.func60, Try.ntmps60
    go_wp2
    go_returns
    exact ⟨by rw [tkA_f hh]; try rfl, by (repeat' (first | (with_reducible exact Below.refl _ _) | (with_reducible assumption) | (with_reducible refine Below.setCell ?_ ?_ _) | (with_reducible refine Below.alloc ?_ ?_ _) | (with_reducible refine below_drewN ?_ _) | (with_reducible refine Below.drew ?_) | (with_reducible exact Nat.le_refl _) | omega | (simp; done) | (simp; omega)))⟩
  · go_enter Try.func60, Try.ntmps60
    go_wp2
    go_returns
    exact ⟨by rw [tkA_s (by omega)]; try rfl, by (repeat' (first | (with_reducible exact Below.refl _ _) | (with_reducible assumption) | (with_reducible refine Below.setCell ?_ ?_ _) | (with_reducible refine Below.alloc ?_ ?_ _) | (with_reducible refine below_drewN ?_ _) | (with_reducible refine Below.drew ?_) | (with_reducible exact Nat.le_refl _) | omega | (simp; done) | (simp; omega)))⟩
set_option maxHeartbeats 6400000 in
theorem impl_tk (p t q e : Int) (ht : -9223372036854775808 ≤ t) (hq : -9223372036854775808 ≤ q) (w : World) :
    Calls Try.prog 35 #[.agg #[.int .i64 p, .int .i64 t, .int .i64 q], .int .i64 e] w fun r w' => r = .returned (.agg #[.int .i64 (tkN ⟨p, t, q⟩ e).1.p, .int .i64 (tkN ⟨p, t, q⟩ e).1.t, .int .i64 (tkN ⟨p, t, q⟩ e).1.w, .bool (tkN ⟨p, t, q⟩ e).2]) ∧ Below w.heap.size w w' := by
  by_cases h0 : p = 0
  case pos =>
    subst h0
    by_cases h1 : e = 1
    · subst h1
      go_enter Try.func35, Try.ntmps35
      go_wp2
      go_returns
      exact ⟨by rw [tkN_0 ⟨rfl, rfl⟩]; try rfl, by (repeat' (first | (with_reducible exact Below.refl _ _) | (with_reducible assumption) | (with_reducible refine Below.setCell ?_ ?_ _) | (with_reducible refine Below.alloc ?_ ?_ _) | (with_reducible refine below_drewN ?_ _) | (with_reducible refine Below.drew ?_) | (with_reducible exact Nat.le_refl _) | omega | (simp; done) | (simp; omega)))⟩
    · go_enter Try.func35, Try.ntmps35
      go_wp2
      go_returns
      exact ⟨by rw [tkN_1 (by omega) (by decide)]; try rfl, by (repeat' (first | (with_reducible exact Below.refl _ _) | (with_reducible assumption) | (with_reducible refine Below.setCell ?_ ?_ _) | (with_reducible refine Below.alloc ?_ ?_ _) | (with_reducible refine below_drewN ?_ _) | (with_reducible refine Below.drew ?_) | (with_reducible exact Nat.le_refl _) | omega | (simp; done) | (simp; omega)))⟩
  by_cases h1 : p = 1
  case neg =>
    go_enter Try.func35, Try.ntmps35
    go_wp2
    go_returns
    exact ⟨by rw [tkN_1 (by omega) h1]; try rfl, by (repeat' (first | (with_reducible exact Below.refl _ _) | (with_reducible assumption) | (with_reducible refine Below.setCell ?_ ?_ _) | (with_reducible refine Below.alloc ?_ ?_ _) | (with_reducible refine below_drewN ?_ _) | (with_reducible refine Below.drew ?_) | (with_reducible exact Nat.le_refl _) | omega | (simp; done) | (simp; omega)))⟩
  subst h1
  clear h0
  by_cases h2 : e = 2
  · subst h2
    go_enter Try.func35, Try.ntmps35
    go_wp2
    go_returns
    exact ⟨by rw [tkN_2]; try rfl, by (repeat' (first | (with_reducible exact Below.refl _ _) | (with_reducible assumption) | (with_reducible refine Below.setCell ?_ ?_ _) | (with_reducible refine Below.alloc ?_ ?_ _) | (with_reducible refine below_drewN ?_ _) | (with_reducible refine Below.drew ?_) | (with_reducible exact Nat.le_refl _) | omega | (simp; done) | (simp; omega)))⟩
  by_cases h3 : e = 3
  · subst h3
    rw [tkN_3]
    have HAG := impl_again 1 t q ht
    obtain ⟨⟨⟨k1, k2, k3⟩, kb⟩, hKK⟩ : ∃ K, K = tkA ⟨1, t, q⟩ := ⟨_, rfl⟩
    rw [← hKK] at HAG ⊢
    have HAG : Hid _ := HAG
    clear hKK
    go_enter Try.func35, Try.ntmps35
    go_wp2_with (fail)
    obtain ⟨W0, hW0⟩ : ∃ W, W = (w.alloc (.cells #[.int .i64 1, .int .i64 t, .int .i64 q] 27)).alloc (.cells #[.int .i64 0, .int .i64 0, .int .i64 0, .bool false] 59) := ⟨_, rfl⟩
    have HW0 : Hid (Below w.heap.size w W0 ∧ W0.heap[w.heap.size + 1]? = some (.cells #[.int .i64 0, .int .i64 0, .int .i64 0, .bool false] 59)) := by rw [hW0]; exact ⟨by (repeat' (first | (with_reducible exact Below.refl _ _) | (with_reducible assumption) | (with_reducible refine Below.setCell ?_ ?_ _) | (with_reducible refine Below.alloc ?_ ?_ _) | (with_reducible refine below_drewN ?_ _) | (with_reducible refine Below.drew ?_) | (with_reducible exact Nat.le_refl _) | omega | (simp; done) | (simp; omega))), by have := heap_alloc_new (w.alloc (.cells #[.int .i64 1, .int .i64 t, .int .i64 q] 27)) (.cells #[.int .i64 0, .int .i64 0, .int .i64 0, .bool false] 59); simpa using this⟩
    rw [← hW0]
    clear hW0
    refine (HAG.out W0).mono ?_
    rintro r w1 ⟨rfl, hb⟩
    have HB : Hid (Below w.heap.size w w1) := HW0.out.1.trans (hb.mono HW0.out.1.size)
    have hx := (hb.block _ (ltOf HW0.out.2)).trans HW0.out.2
    have c0 := cellOf hx 0 rfl
    have c1 := cellOf hx 1 rfl
    have c2 := cellOf hx 2 rfl
    have c3 := cellOf hx 3 rfl
    have f0 := frozOf hx 0
    have f1 := frozOf hx 1
    have f2 := frozOf hx 2
    have f3 := frozOf hx 3
    have hl := ltOf hx
    clear hb hx HW0 HAG
    go_wp2
    try simp only [Exit.inBlock, Exit.then]
    refine bodyPost_ret (by simp [results, Try.results35, go_sem, c0, c1, c2, c3, hl]; try rfl) rfl ⟨rfl, ?_⟩
    have hb := HB.out
    (repeat' (first | (with_reducible exact Below.refl _ _) | (with_reducible assumption) | (with_reducible refine Below.setCell ?_ ?_ _) | (with_reducible refine Below.alloc ?_ ?_ _) | (with_reducible refine below_drewN ?_ _) | (with_reducible refine Below.drew ?_) | (with_reducible exact Nat.le_refl _) | omega | (simp; done) | (simp; omega)))
  by_cases h4 : e = 4
  · subst h4
    by_cases h5 : q < 2
    · have hq2 : (decide (2 ≤ q)) = false := by simp; omega
      go_enter Try.func35, Try.ntmps35
      go_wp2
      go_returns
      exact ⟨by rw [tkN_4 h5]; try rfl, by (repeat' (first | (with_reducible exact Below.refl _ _) | (with_reducible assumption) | (with_reducible refine Below.setCell ?_ ?_ _) | (with_reducible refine Below.alloc ?_ ?_ _) | (with_reducible refine below_drewN ?_ _) | (with_reducible refine Below.drew ?_) | (with_reducible exact Nat.le_refl _) | omega | (simp; done) | (simp; omega)))⟩
    have hq2 : (decide (2 ≤ q)) = true := by simp; omega
    rw [tkN_5 h5]
    skip
    have HAG := impl_again 1 t q ht
    obtain ⟨⟨⟨k1, k2, k3⟩, kb⟩, hKK⟩ : ∃ K, K = tkA ⟨1, t, q⟩ := ⟨_, rfl⟩
    rw [← hKK] at HAG ⊢
    have HAG : Hid _ := HAG
    clear hKK
    go_enter Try.func35, Try.ntmps35
    go_wp2_with (fail)
    obtain ⟨W0, hW0⟩ : ∃ W, W = (w.alloc (.cells #[.int .i64 1, .int .i64 t, .int .i64 q] 27)).alloc (.cells #[.int .i64 0, .int .i64 0, .int .i64 0, .bool false] 59) := ⟨_, rfl⟩
    have HW0 : Hid (Below w.heap.size w W0 ∧ W0.heap[w.heap.size + 1]? = some (.cells #[.int .i64 0, .int .i64 0, .int .i64 0, .bool false] 59)) := by rw [hW0]; exact ⟨by (repeat' (first | (with_reducible exact Below.refl _ _) | (with_reducible assumption) | (with_reducible refine Below.setCell ?_ ?_ _) | (with_reducible refine Below.alloc ?_ ?_ _) | (with_reducible refine below_drewN ?_ _) | (with_reducible refine Below.drew ?_) | (with_reducible exact Nat.le_refl _) | omega | (simp; done) | (simp; omega))), by have := heap_alloc_new (w.alloc (.cells #[.int .i64 1, .int .i64 t, .int .i64 q] 27)) (.cells #[.int .i64 0, .int .i64 0, .int .i64 0, .bool false] 59); simpa using this⟩
    rw [← hW0]
    clear hW0
    refine (HAG.out W0).mono ?_
    rintro r w1 ⟨rfl, hb⟩
    have HB : Hid (Below w.heap.size w w1) := HW0.out.1.trans (hb.mono HW0.out.1.size)
    have hx := (hb.block _ (ltOf HW0.out.2)).trans HW0.out.2
    have c0 := cellOf hx 0 rfl
    have c1 := cellOf hx 1 rfl
    have c2 := cellOf hx 2 rfl
    have c3 := cellOf hx 3 rfl
    have f0 := frozOf hx 0
    have f1 := frozOf hx 1
    have f2 := frozOf hx 2
    have f3 := frozOf hx 3
    have hl := ltOf hx
    clear hb hx HW0 HAG
    go_wp2
    try simp only [Exit.inBlock, Exit.then]
    refine bodyPost_ret (by simp [results, Try.results35, go_sem, c0, c1, c2, c3, hl]; try rfl) rfl ⟨rfl, ?_⟩
    have hb := HB.out
    (repeat' (first | (with_reducible exact Below.refl _ _) | (with_reducible assumption) | (with_reducible refine Below.setCell ?_ ?_ _) | (with_reducible refine Below.alloc ?_ ?_ _) | (with_reducible refine below_drewN ?_ _) | (with_reducible refine Below.drew ?_) | (with_reducible exact Nat.le_refl _) | omega | (simp; done) | (simp; omega)))
  go_enter Try.func35, Try.ntmps35
  go_wp2
  go_returns
  exact ⟨by rw [tkN_6 h2 h3 h4]; try rfl, by (repeat' (first | (with_reducible exact Below.refl _ _) | (with_reducible assumption) | (with_reducible refine Below.setCell ?_ ?_ _) | (with_reducible refine Below.alloc ?_ ?_ _) | (with_reducible refine below_drewN ?_ _) | (with_reducible refine Below.drew ?_) | (with_reducible exact Nat.le_refl _) | omega | (simp; done) | (simp; omega)))⟩

end Go.Proofs.Ytejpjbihdclngaa
