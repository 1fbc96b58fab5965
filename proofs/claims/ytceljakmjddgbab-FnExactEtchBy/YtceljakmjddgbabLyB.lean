/- Proved here: the book of what is lost, of the program. -/
import Derived.Test.YtceljakmjddgbabLyW
namespace Go.Proofs.Ytceljakmjddgbab
open Go.RowKit
set_option linter.unusedVariables false
set_option linter.unusedSimpArgs false

set_option maxRecDepth 10000 in
set_option maxHeartbeats 6400000 in
theorem impl_book {w : World} {B g : Nat} {xs : List Int} (l : Lay) (hl : okL l) (hb : BM 1000000000 xs) (h : IS w B (.slice (some ⟨g, 0, none⟩) 12 12) xs) :
    Calls Try.prog 77 #[.slice (some ⟨g, 0, none⟩) 12 12, layV l] w fun e w' => e = .returned (.tuple #[]) ∧ IS w' B (.slice (some ⟨g, 0, none⟩) 12 12) (bookL xs l) ∧ w.grownBy w' (some g) := by
  cases l with
  | who m t =>
    show Calls Try.prog 77 #[.slice (some ⟨g, 0, none⟩) 12 12, .iface 76 (.agg #[.int .i64 m, .int .i64 t])] w _
    have HX : Hid (IS w B (.slice (some ⟨g, 0, none⟩) 12 12) xs) := h
    clear h hl hb
    have a1 : ∀ w : World, (Instr.typeAssert (.iface 76 (.agg #[.int .i64 m, .int .i64 t])) 88 111 true).run Try.prog w = .ok (.tuple #[.agg #[.int .i64 0, .int .i64 0, .int .i64 0], .bool false]) w := fun _ => by kernel_rfl
    have a2 : ∀ w : World, (Instr.typeAssert (.iface 76 (.agg #[.int .i64 m, .int .i64 t])) 88 86 true).run Try.prog w = .ok (.tuple #[.agg #[.int .i64 0, .int .i64 0], .bool false]) w := fun _ => by kernel_rfl
    go_enter Try.func77, Try.ntmps77
    go_wp2
    go_returns
    exact ⟨rfl, HX.out, World.grownBy.refl _ _⟩
  | thi m t b =>
    show Calls Try.prog 77 #[.slice (some ⟨g, 0, none⟩) 12 12, .iface 111 (.agg #[.int .i64 m, .int .i64 t, .int .i64 b])] w _
    simp only [okL] at hl
    have a1 : ∀ w : World, (Instr.typeAssert (.iface 111 (.agg #[.int .i64 m, .int .i64 t, .int .i64 b])) 88 111 true).run Try.prog w = .ok (.tuple #[.agg #[.int .i64 m, .int .i64 t, .int .i64 b], .bool true]) w := fun _ => by kernel_rfl
    obtain ⟨p, hp⟩ : ∃ p : Nat, m = (p : Int) + 1 := ⟨(m - 1).toNat, by omega⟩
    have hp12 : p < 12 := by omega
    subst hp
    have HX0 := h
    obtain ⟨V, hV⟩ : ∃ V, V = w.alloc (.cells #[.int .i64 ((p : Int) + 1), .int .i64 t, .int .i64 b] 111) := ⟨_, rfl⟩
    have hbV : Below w.heap.size w V := by rw [hV]; (repeat' (first | (with_reducible exact Below.refl _ _) | (with_reducible assumption) | (with_reducible refine Below.setCell ?_ ?_ _) | (with_reducible refine Below.alloc ?_ ?_ _) | (with_reducible refine below_drewN ?_ _) | (with_reducible refine Below.drew ?_) | (with_reducible exact Nat.le_refl _) | omega | (simp; done) | (simp; omega)))
    have hkV : V.heap[w.heap.size]? = some (.cells #[.int .i64 ((p : Int) + 1), .int .i64 t, .int .i64 b] 111) := by rw [hV]; exact heap_alloc_new _ _
    have m0 : V.cell? ⟨w.heap.size, 0, none⟩ = some (.int .i64 ((p : Int) + 1)) := by simp [World.cell?, hkV]
    have m1 : V.cell? ⟨w.heap.size, 1, none⟩ = some (.int .i64 t) := by simp [World.cell?, hkV]
    have m3 : V.cell? ⟨w.heap.size, 2, none⟩ = some (.int .i64 b) := by simp [World.cell?, hkV]
    have m2 : w.heap.size < V.heap.size := by rw [hV]; simp
    have hIV := IS.kept h (fun q hq => hbV.block q (World.ownsRow.lt h q hq).2)
    obtain ⟨n0, n1, n2⟩ := hIV.bookAt hb.len hp12
    have hy1 := hb.lo p
    have hy2 := hb.hi p
    obtain ⟨y, hy⟩ : ∃ y, y = xs.getD p 0 := ⟨_, rfl⟩
    rw [← hy] at n0 hy1 hy2
    have HX : Hid (IS (V.drew.setCell ⟨g, p, none⟩ (.int .i64 (y + b))) B (.slice (some ⟨g, 0, none⟩) 12 12) (addM xs ((p : Int) + 1) b) ∧ w.grownBy (V.drew.setCell ⟨g, p, none⟩ (.int .i64 (y + b))) (some g)) := by
      have h9 : IS V.drew B (.slice (some ⟨g, 0, none⟩) 12 12) xs := hIV
      have := h9.bookSet hb.len p (y + b)
      refine ⟨?_, hbV.os, hbV.tape, hbV.output, by simpa using hbV.size, fun k hk hne => ?_⟩
      · rw [addM, show (((p : Int) + 1) - 1).toNat = p by omega, ← hy]; exact this
      · rw [heap_setCell_other _ _ _ _ (by simp only [ne_eq]; exact fun e => hne (by rw [e]))]
        exact hbV.block k hk
    have HV : Hid (V = w.alloc (.cells #[.int .i64 ((p : Int) + 1), .int .i64 t, .int .i64 b] 111)) := hV
    have hw2' : (p : Int) + 1 - 1 = (p : Int) := by omega
    have hw3' : IntKind.i64.wrap (p : Int) = (p : Int) := by rw [IntKind.wrap_i64]; omega
    have hpi0 : (0 : Int) ≤ (p : Int) := by omega
    have hpi1 : (p : Int) < 12 := by omega
    have hyx : IntKind.i64.wrap (y + b) = y + b := by rw [IntKind.wrap_i64]; omega
    clear hIV hbV hkV hV hy h hb HX0
    go_enter Try.func77, Try.ntmps77
    go_wp2_with (fail)
    rw [← HV.out]
    refine wp_region_still_tail 11 (by kernel_rfl) (by kernel_rfl) ?_
    have hdw : ({ V with drawn := V.drawn + 1 } : World) = V.drew := rfl
    rw [hdw]
    clear hdw
    simp only [List.take_succ_cons, List.take_zero, List.drop_succ_cons, List.drop_zero]
    iterate 11 still_step
    refine wpStill_nil ?_
    go_wp2
    go_returns
    exact ⟨rfl, HX.out.1, HX.out.2⟩
  | gon m t =>
    show Calls Try.prog 77 #[.slice (some ⟨g, 0, none⟩) 12 12, .iface 86 (.agg #[.int .i64 m, .int .i64 t])] w _
    simp only [okL] at hl
    have a1 : ∀ w : World, (Instr.typeAssert (.iface 86 (.agg #[.int .i64 m, .int .i64 t])) 88 111 true).run Try.prog w = .ok (.tuple #[.agg #[.int .i64 0, .int .i64 0, .int .i64 0], .bool false]) w := fun _ => by kernel_rfl
    have a2 : ∀ w : World, (Instr.typeAssert (.iface 86 (.agg #[.int .i64 m, .int .i64 t])) 88 86 true).run Try.prog w = .ok (.tuple #[.agg #[.int .i64 m, .int .i64 t], .bool true]) w := fun _ => by kernel_rfl
    obtain ⟨p, hp⟩ : ∃ p : Nat, m = (p : Int) + 1 := ⟨(m - 1).toNat, by omega⟩
    have hp12 : p < 12 := by omega
    subst hp
    have HX0 := h
    obtain ⟨V, hV⟩ : ∃ V, V = w.alloc (.cells #[.int .i64 ((p : Int) + 1), .int .i64 t] 86) := ⟨_, rfl⟩
    have hbV : Below w.heap.size w V := by rw [hV]; (repeat' (first | (with_reducible exact Below.refl _ _) | (with_reducible assumption) | (with_reducible refine Below.setCell ?_ ?_ _) | (with_reducible refine Below.alloc ?_ ?_ _) | (with_reducible refine below_drewN ?_ _) | (with_reducible refine Below.drew ?_) | (with_reducible exact Nat.le_refl _) | omega | (simp; done) | (simp; omega)))
    have hkV : V.heap[w.heap.size]? = some (.cells #[.int .i64 ((p : Int) + 1), .int .i64 t] 86) := by rw [hV]; exact heap_alloc_new _ _
    have m0 : V.cell? ⟨w.heap.size, 0, none⟩ = some (.int .i64 ((p : Int) + 1)) := by simp [World.cell?, hkV]
    have m1 : V.cell? ⟨w.heap.size, 1, none⟩ = some (.int .i64 t) := by simp [World.cell?, hkV]

    have m2 : w.heap.size < V.heap.size := by rw [hV]; simp
    have hIV := IS.kept h (fun q hq => hbV.block q (World.ownsRow.lt h q hq).2)
    obtain ⟨n0, n1, n2⟩ := hIV.bookAt hb.len hp12
    have hy1 := hb.lo p
    have hy2 := hb.hi p
    obtain ⟨y, hy⟩ : ∃ y, y = xs.getD p 0 := ⟨_, rfl⟩
    rw [← hy] at n0 hy1 hy2
    have HX : Hid (IS (V.drew.setCell ⟨g, p, none⟩ (.int .i64 (y + t))) B (.slice (some ⟨g, 0, none⟩) 12 12) (addM xs ((p : Int) + 1) t) ∧ w.grownBy (V.drew.setCell ⟨g, p, none⟩ (.int .i64 (y + t))) (some g)) := by
      have h9 : IS V.drew B (.slice (some ⟨g, 0, none⟩) 12 12) xs := hIV
      have := h9.bookSet hb.len p (y + t)
      refine ⟨?_, hbV.os, hbV.tape, hbV.output, by simpa using hbV.size, fun k hk hne => ?_⟩
      · rw [addM, show (((p : Int) + 1) - 1).toNat = p by omega, ← hy]; exact this
      · rw [heap_setCell_other _ _ _ _ (by simp only [ne_eq]; exact fun e => hne (by rw [e]))]
        exact hbV.block k hk
    have HV : Hid (V = w.alloc (.cells #[.int .i64 ((p : Int) + 1), .int .i64 t] 86)) := hV
    have hw2' : (p : Int) + 1 - 1 = (p : Int) := by omega
    have hw3' : IntKind.i64.wrap (p : Int) = (p : Int) := by rw [IntKind.wrap_i64]; omega
    have hpi0 : (0 : Int) ≤ (p : Int) := by omega
    have hpi1 : (p : Int) < 12 := by omega
    have hyx : IntKind.i64.wrap (y + t) = y + t := by rw [IntKind.wrap_i64]; omega
    clear hIV hbV hkV hV hy h hb HX0
    go_enter Try.func77, Try.ntmps77
    go_wp2_with (fail)
    rw [← HV.out]
    refine wp_region_still_tail 12 (by kernel_rfl) (by kernel_rfl) ?_
    have hdw : ({ V with drawn := V.drawn + 1 } : World) = V.drew := rfl
    rw [hdw]
    clear hdw
    simp only [List.take_succ_cons, List.take_zero, List.drop_succ_cons, List.drop_zero]
    iterate 12 still_step
    refine wpStill_nil ?_
    go_wp2
    go_returns
    exact ⟨rfl, HX.out.1, HX.out.2⟩

end Go.Proofs.Ytceljakmjddgbab
