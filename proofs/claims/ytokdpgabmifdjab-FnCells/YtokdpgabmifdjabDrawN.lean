/- Proved here: l2Bent: a list of boxes in memory of the call's own. -/
import Derived.Test.YtokdpgabmifdjabDrawF
import Derived.Test.YtokdpgabmifdjabTurnM
namespace Go.Proofs.Ytokdpgabmifdjab
open Go.RowKit
set_option linter.unusedVariables false
set_option linter.unusedSimpArgs false

theorem source_anyG (ca : Option Addr) (n cap : Nat) (w : World) :
    Calls Try.prog 56 #[.slice ca n cap] w fun e w' => e = .returned (.pointer (some ⟨w.heap.size, 0, none⟩)) ∧ w' = w.alloc (.cells #[.slice ca n cap, .int .i64 0] 85) := by
  go_enter Try.func56, Try.ntmps56
  go_wp2
  go_returns
  exact ⟨rfl, rfl⟩

set_option maxRecDepth 10000 in
set_option maxHeartbeats 3200000 in
theorem bentD_any {w : World} {b : Nat} {ca : Option Addr} {n cap : Nat} {bs : Nat → Int} {t : Int} (h : Src w b ca n cap bs t) (h1 : t ≤ 100) :
    Calls Try.prog 55 #[.pointer (some ⟨b, 0, none⟩)] w fun e w' => ∃ v s t', e = .returned v ∧ BS w' w.heap.size v s ∧ s.length ≤ 151 ∧ t ≤ t' ∧ t' ≤ t + 250 ∧ DS w w' b ca n cap bs t' := by
  have H0 : Hid (Src w b ca n cap bs t) := h
  have hb : b < w.heap.size := lt_of_blk h.blk
  clear h
  go_enter Try.func55, Try.ntmps55
  go_wp2_with (fail)
  refine (next_any _ H0.out (by omega) (by omega) (by omega)).mono ?_
  rintro e w1 ⟨r, rfl, p1, q1, hS, hO⟩
  have D1 : Hid (DS w w1 b ca n cap bs (t + 1)) := (DS.start H0.out).only hS hO
  have hsz1 : w.heap.size ≤ w1.heap.size := D1.out.save.size
  clear hS hO
  by_cases e0 : r = 0
  · subst e0
    go_wp2_with (fail)
    refine (farD_any D1.out.src (by omega)).mono ?_
    rintro e w2 ⟨v, s, t2, rfl, hbs, hl, ht, ht2, hD⟩
    have D2 : Hid (BS w2 w.heap.size v s ∧ DS w w2 b ca n cap bs t2) := ⟨hbs.low hsz1, D1.out.trans hD⟩
    clear hbs hD
    go_wp2
    go_returns
    exact ⟨_, _, _, rfl, D2.out.1, hl, by omega, by omega, D2.out.2⟩
  by_cases e1 : r = 1
  · subst e1
    go_wp2_with (fail)
    refine (shapeD_any D1.out.src (by omega)).mono ?_
    rintro e w2 ⟨v, s, t2, rfl, hbs, hl, hne, ht, ht2, hD⟩
    have D2 : Hid (BS w2 w.heap.size v s ∧ DS w w2 b ca n cap bs t2) := ⟨hbs.low hsz1, D1.out.trans hD⟩
    obtain ⟨oa, oc, hof⟩ := hbs.form
    subst hof
    clear hbs hD
    by_cases h2 : (1 : Int) < (s.length : Int)
    · obtain ⟨g, hg⟩ : ∃ g, oa = some ⟨g, 0, none⟩ := by
        rcases D2.out.1.2 with ⟨h1, h2⟩ | ⟨g, cap, cur, h1, _⟩
        · exact absurd h1 hne
        · simp only [Value.slice.injEq] at h1
          exact ⟨g, h1.1⟩
      subst hg
      obtain ⟨g', o', c', he, hgl, hj⟩ := D2.out.1.rb.pos (by omega)
      simp only [Value.slice.injEq, Option.some.injEq, Addr.mk.injEq, and_true] at he
      obtain ⟨⟨rfl, rfl⟩, hx1, hx2⟩ := he
      clear hx1 hx2
      obtain ⟨c0, c1, c2, c3⟩ := hj 1 (by omega)
      obtain ⟨d0, d1, d2, d3⟩ := hj 0 (by omega)
      obtain ⟨m, hm⟩ : ∃ m, bat s 1 = m := ⟨_, rfl⟩
      rw [hm] at c0 c1 c2 c3
      simp only [Nat.zero_add, Nat.one_mul, Nat.zero_mul, Nat.add_zero] at c0 c1 c2 c3 d0 d1 d2 d3
      have f0 := World.ownsRow.frozenAt D2.out.1 0
      have f1 := World.ownsRow.frozenAt D2.out.1 1
      have f2 := World.ownsRow.frozenAt D2.out.1 2
      have f3 := World.ownsRow.frozenAt D2.out.1 3
      have hput := D2.out.1.put (j := 0) (by omega) m
      simp only [Nat.zero_add, Nat.zero_mul] at hput
      have hgw : w.heap.size ≤ g := (World.ownsRow.lt D2.out.1 g rfl).1
      have HP : Hid (BS ((((w2.setCell ⟨g, 0, none⟩ (.int .i64 m.x0)).setCell ⟨g, 1, none⟩ (.int .i64 m.y0)).setCell ⟨g, 2, none⟩ (.int .i64 m.x1)).setCell ⟨g, 3, none⟩ (.int .i64 m.y1)) w.heap.size (.slice (some ⟨g, 0, none⟩) s.length oc) (s.set 0 m) ∧ DS w ((((w2.setCell ⟨g, 0, none⟩ (.int .i64 m.x0)).setCell ⟨g, 1, none⟩ (.int .i64 m.y0)).setCell ⟨g, 2, none⟩ (.int .i64 m.x1)).setCell ⟨g, 3, none⟩ (.int .i64 m.y1)) b ca n cap bs t2) := by
        refine ⟨hput, D2.out.2.write H0.out rfl rfl rfl (by simp) fun k hk => ?_⟩
        rw [heap_setCell_other _ _ _ _ (by simp; omega), heap_setCell_other _ _ _ _ (by simp; omega), heap_setCell_other _ _ _ _ (by simp; omega), heap_setCell_other _ _ _ _ (by simp; omega)]
      clear hput D2 hj hm
      go_wp2
      go_returns
      exact ⟨_, _, _, rfl, HP.out.1, by simp; omega, by omega, by omega, HP.out.2⟩
    · go_wp2
      go_returns
      exact ⟨_, _, _, rfl, D2.out.1, by omega, by omega, by omega, D2.out.2⟩
  have n0 : (r == 0) = false := by simpa using e0
  have n1 : (r == 1) = false := by simpa using e1
  go_wp2_with (fail)
  refine (shapeD_any D1.out.src (by omega)).mono ?_
  rintro e w2 ⟨v, s, t2, rfl, hbs, hl, hne, ht, ht2, hD⟩
  have D2 : Hid (BS w2 w.heap.size v s ∧ DS w w2 b ca n cap bs t2) := ⟨hbs.low hsz1, D1.out.trans hD⟩
  clear hbs hD
  go_wp2
  go_returns
  exact ⟨_, _, _, rfl, D2.out.1, by omega, by omega, by omega, D2.out.2⟩

end Go.Proofs.Ytokdpgabmifdjab
