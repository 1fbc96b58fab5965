/- Proved here: 'the program's ModImage answers as the model's; it writes into no argument and keeps nothing of one; its answer owns its memory, behind another call too', for every three lists, without a condition. -/
import Derived.Test.YtcjednfcfobblaaMiT
import Derived.Test.YtcjednfcfobblaaIrL
import Derived.Test.YtcjednfcfobblaaRows
namespace Go.Proofs.Ytcjednfcfobblaa
open Go.ChangeShapes Go.WideShapes Go.ChangeAt Go.RowKit Go.Joins
set_option linter.unusedVariables false
set_option linter.unusedSimpArgs false

theorem own : ownKnob Try.prog.godebug = none := by kernel_rfl
theorem laidOut : laidOutB Try.prog = true := by kernel_rfl
theorem miL_len (mk bk ss : List Int) : (miL mk bk ss).length ≤ 32 := by
  unfold miL
  split
  · rename_i h
    unfold miC at h
    split at h
    · cases h
    · split at h
      · cases h
      · simp [miK]; omega
  · simp
theorem two_ir {w : World} {k : Nat} {a b : Value} {T : TypeId} (h : w.heap[k]? = some (.cells #[a, b] T)) :
    w.cell? ⟨k, 0, none⟩ = some a ∧ w.cell? ⟨k, 1, none⟩ = some b ∧ (∀ i, w.frozen? ⟨k, i, none⟩ = false) ∧ k < w.heap.size := by
  refine ⟨by simp [World.cell?, h], by simp [World.cell?, h], fun i => by simp [World.frozen?, h], ?_⟩
  rcases Nat.lt_or_ge k w.heap.size with h' | h'
  · exact h'
  · rw [Array.getElem?_eq_none h'] at h; cases h

set_option maxRecDepth 10000 in
set_option maxHeartbeats 12800000 in
theorem law_mi {w : World} {aa ab ac : Option Addr} {n m l ca cb cc : Nat} (s : List Int) (hm1 : s.length ≤ maxLen) (h1 : RdI w (.slice aa n ca) s) (t : List Int) (hm2 : t.length ≤ maxLen) (h2 : RdI w (.slice ab m cb) t) (u : List Int) (hm3 : u.length ≤ maxLen) (h3 : RdI w (.slice ac l cc) u) :
    Calls Try.prog 7 #[.slice aa n ca, .slice ab m cb, .slice ac l cc] w fun e w' => e = .returned (.bool true) ∧ Below w.heap.size w w' := by
  have H : Hid (RdI w (.slice aa n ca) s ∧ RdI w (.slice ab m cb) t ∧ RdI w (.slice ac l cc) u ∧ n = s.length ∧ m = t.length ∧ l = u.length) := ⟨h1, h2, h3, h1.len, h2.len, h3.len⟩
  clear h1 h2 h3 hm1 hm2 hm3
  by_cases q1 : (1048576 : Int) < (n : Int)
  · go_enter Try.func7, Try.ntmps7
    go_wp2
    go_returns
    exact ⟨rfl, by (repeat' (first | (with_reducible exact Below.refl _ _) | (with_reducible assumption) | (with_reducible refine Below.setCell ?_ ?_ _) | (with_reducible refine Below.alloc ?_ ?_ _) | (with_reducible refine below_drewN ?_ _) | (with_reducible refine Below.drew ?_) | (with_reducible exact Nat.le_refl _) | omega | (simp; done) | (simp; omega)))⟩
  by_cases q2 : (1048576 : Int) < (m : Int)
  · go_enter Try.func7, Try.ntmps7
    go_wp2
    go_returns
    exact ⟨rfl, by (repeat' (first | (with_reducible exact Below.refl _ _) | (with_reducible assumption) | (with_reducible refine Below.setCell ?_ ?_ _) | (with_reducible refine Below.alloc ?_ ?_ _) | (with_reducible refine below_drewN ?_ _) | (with_reducible refine Below.drew ?_) | (with_reducible exact Nat.le_refl _) | omega | (simp; done) | (simp; omega)))⟩
  by_cases q3 : (1048576 : Int) < (l : Int)
  · go_enter Try.func7, Try.ntmps7
    go_wp2
    go_returns
    exact ⟨rfl, by (repeat' (first | (with_reducible exact Below.refl _ _) | (with_reducible assumption) | (with_reducible refine Below.setCell ?_ ?_ _) | (with_reducible refine Below.alloc ?_ ?_ _) | (with_reducible refine below_drewN ?_ _) | (with_reducible refine Below.drew ?_) | (with_reducible exact Nat.le_refl _) | omega | (simp; done) | (simp; omega)))⟩
  have HL : Hid (s.length ≤ 1048576 ∧ t.length ≤ 1048576 ∧ u.length ≤ 1048576) := ⟨by have := H.out.2.2.2.1; omega, by have := H.out.2.2.2.2.1; omega, by have := H.out.2.2.2.2.2; omega⟩
  obtain ⟨L, hL⟩ : ∃ L, L = miL s t u := ⟨_, rfl⟩
  obtain ⟨C, hC⟩ : ∃ C, C = miC s.length t.length u.length := ⟨_, rfl⟩
  have HLl : Hid (L.length ≤ 32) := by unfold Hid; rw [hL]; exact miL_len s t u
  have HSP : Hid (∀ (W : World) (g1 g2 g3 : Nat) (c1 c2 c3 : Nat), RdI W (.slice (some ⟨g1, 0, none⟩) s.length c1) s → RdI W (.slice (some ⟨g2, 0, none⟩) t.length c2) t → RdI W (.slice (some ⟨g3, 0, none⟩) u.length c3) u → Calls Try.prog 26 #[.slice (some ⟨g1, 0, none⟩) s.length c1, .slice (some ⟨g2, 0, none⟩) t.length c2, .slice (some ⟨g3, 0, none⟩) u.length c3] W fun e w' => ∃ v, e = .returned (.agg #[.int .i64 C, v]) ∧ IS w' W.heap.size v L ∧ Below W.heap.size W w') := fun W g1 g2 g3 c1 c2 c3 a b c => by rw [hL, hC]; exact spec_mi HL.out.1 a b c
  have HIM : Hid (∀ (W : World) (g1 g2 g3 : Nat) (c1 c2 c3 : Nat), RdI W (.slice (some ⟨g1, 0, none⟩) s.length c1) s → RdI W (.slice (some ⟨g2, 0, none⟩) t.length c2) t → RdI W (.slice (some ⟨g3, 0, none⟩) u.length c3) u → Calls Try.prog 28 #[.slice (some ⟨g1, 0, none⟩) s.length c1, .slice (some ⟨g2, 0, none⟩) t.length c2, .slice (some ⟨g3, 0, none⟩) u.length c3] W fun e w' => ∃ v, e = .returned (.agg #[.int .i64 C, v]) ∧ IS w' W.heap.size v L ∧ Below W.heap.size W w') := fun W g1 g2 g3 c1 c2 c3 a b c => by rw [hL, hC]; exact impl_mi HL.out.1 a b c
  clear hL hC
  go_enter Try.func7, Try.ntmps7
  go_wp2_with (fail)
  refine (toInt64S_any HL.out.1 H.out.1).mono ?_
  rintro e w1 ⟨g1, rfl, hi1, hb1⟩
  go_wp2_with (fail)
  refine (toInt64S_any HL.out.2.1 (H.out.2.1.below hb1)).mono ?_
  rintro e w2 ⟨g2, rfl, hi2, hb2⟩
  have hB2 := hb1.trans (hb2.mono hb1.size)
  go_wp2_with (fail)
  refine (toInt64S_any HL.out.2.2 (H.out.2.2.1.below hB2)).mono ?_
  rintro e w3 ⟨g3, rfl, hi3, hb3⟩
  have hB3 := hB2.trans (hb3.mono hB2.size)
  go_wp2_with (fail)
  refine (HSP.out w3 g1 g2 g3 _ _ _ ((hi1.rg.below hb2).below hb3) (hi2.rg.below hb3) hi3.rg).mono ?_
  rintro e w4 ⟨vs, rfl, hs, hb4⟩
  obtain ⟨sa, sc, rfl⟩ := hs.form
  have hB4 := hB3.trans (hb4.mono hB3.size)
  have Z4 : Hid (LV w [(w4.heap.size, Obj.cells #[.int .i64 C, .slice sa L.length sc] 48)] (w4.alloc (Obj.cells #[.int .i64 C, .slice sa L.length sc] 48)) ∧ LO w.heap.size w4.heap.size (.slice sa L.length sc) L (w4.alloc (Obj.cells #[.int .i64 C, .slice sa L.length sc] 48))) :=
    ⟨⟨hB4.alloc hB4.size _, fun p hp => by obtain rfl := List.mem_singleton.1 hp; exact heap_alloc_new _ _⟩, ⟨(hs.low (by have := hB3.size; omega)).bel (by (repeat' (first | (with_reducible exact Below.refl _ _) | (with_reducible assumption) | (with_reducible refine Below.setCell ?_ ?_ _) | (with_reducible refine Below.alloc ?_ ?_ _) | (with_reducible refine below_drewN ?_ _) | (with_reducible refine Below.drew ?_) | (with_reducible exact Nat.le_refl _) | omega | (simp; done) | (simp; omega)))), fun g hg => (IS.lt hs g hg).2⟩⟩
  have hK0 : w.heap.size ≤ w4.heap.size := hB4.size
  clear hi1 hb1 hi2 hb2 hB2 hi3 hb3 hB3 hs hb4 hB4
  obtain ⟨V4, hV4⟩ : ∃ V4, V4 = w4.alloc (Obj.cells #[.int .i64 C, .slice sa L.length sc] 48) := ⟨_, rfl⟩
  have hs4 : V4.heap.size = w4.heap.size + 1 := by rw [hV4]; simp
  go_wp2_with (fail)
  rw [← hV4] at Z4 ⊢
  obtain ⟨K0, hK⟩ : ∃ K0, K0 = w4.heap.size := ⟨_, rfl⟩
  rw [← hK] at Z4 hK0 hs4 ⊢
  clear hV4 hK
  refine (toInt64S_any HL.out.1 (H.out.1.below Z4.out.1.bl)).mono ?_
  rintro e w5 ⟨x1, rfl, hi5, hb5⟩
  have Z5 : Hid (LV w [(K0, Obj.cells #[.int .i64 C, .slice sa L.length sc] 48)] w5 ∧ LO w.heap.size K0 (.slice sa L.length sc) L w5 ∧ LO V4.heap.size w5.heap.size (.slice (some ⟨x1, 0, none⟩) s.length s.length) s w5) :=
    ⟨Z4.out.1.next hb5, Z4.out.2.next hb5, hi5, fun g hg => (IS.lt hi5 g hg).2⟩
  have hs5 := hb5.size
  clear hi5 hb5 Z4
  go_wp2_with (fail)
  refine (toInt64S_any HL.out.2.1 (H.out.2.1.below Z5.out.1.bl)).mono ?_
  rintro e w6 ⟨x2, rfl, hi6, hb6⟩
  have Z6 : Hid (LV w [(K0, Obj.cells #[.int .i64 C, .slice sa L.length sc] 48)] w6 ∧ LO w.heap.size K0 (.slice sa L.length sc) L w6 ∧ LO V4.heap.size w5.heap.size (.slice (some ⟨x1, 0, none⟩) s.length s.length) s w6 ∧ LO w5.heap.size w6.heap.size (.slice (some ⟨x2, 0, none⟩) t.length t.length) t w6) :=
    ⟨Z5.out.1.next hb6, Z5.out.2.1.next hb6, Z5.out.2.2.next hb6, hi6, fun g hg => (IS.lt hi6 g hg).2⟩
  have hs6 := hb6.size
  clear hi6 hb6 Z5
  go_wp2_with (fail)
  refine (toInt64S_any HL.out.2.2 (H.out.2.2.1.below Z6.out.1.bl)).mono ?_
  rintro e w7 ⟨x3, rfl, hi7, hb7⟩
  have Z7 : Hid (LV w [(K0, Obj.cells #[.int .i64 C, .slice sa L.length sc] 48)] w7 ∧ LO w.heap.size K0 (.slice sa L.length sc) L w7 ∧ LO V4.heap.size w5.heap.size (.slice (some ⟨x1, 0, none⟩) s.length s.length) s w7 ∧ LO w5.heap.size w6.heap.size (.slice (some ⟨x2, 0, none⟩) t.length t.length) t w7 ∧ LO w6.heap.size w7.heap.size (.slice (some ⟨x3, 0, none⟩) u.length u.length) u w7) :=
    ⟨Z6.out.1.next hb7, Z6.out.2.1.next hb7, Z6.out.2.2.1.next hb7, Z6.out.2.2.2.next hb7, hi7, fun g hg => (IS.lt hi7 g hg).2⟩
  have hs7 := hb7.size
  clear hi7 hb7 Z6
  go_wp2_with (fail)
  refine (HIM.out w7 x1 x2 x3 _ _ _ Z7.out.2.2.1.is.rg Z7.out.2.2.2.1.is.rg Z7.out.2.2.2.2.is.rg).mono ?_
  rintro e w8 ⟨vg, rfl, hg8, hb8⟩
  obtain ⟨ga, gc, rfl⟩ := hg8.form
  have ha8 : Below w8.heap.size w8 (w8.alloc (Obj.cells #[.int .i64 C, .slice ga L.length gc] 48)) := by (repeat' (first | (with_reducible exact Below.refl _ _) | (with_reducible assumption) | (with_reducible refine Below.setCell ?_ ?_ _) | (with_reducible refine Below.alloc ?_ ?_ _) | (with_reducible refine below_drewN ?_ _) | (with_reducible refine Below.drew ?_) | (with_reducible exact Nat.le_refl _) | omega | (simp; done) | (simp; omega)))
  have Z8 : Hid (LV w [(w8.heap.size, Obj.cells #[.int .i64 C, .slice ga L.length gc] 48), (K0, Obj.cells #[.int .i64 C, .slice sa L.length sc] 48)] (w8.alloc (Obj.cells #[.int .i64 C, .slice ga L.length gc] 48)) ∧ LO w.heap.size K0 (.slice sa L.length sc) L (w8.alloc (Obj.cells #[.int .i64 C, .slice ga L.length gc] 48)) ∧ LO V4.heap.size w5.heap.size (.slice (some ⟨x1, 0, none⟩) s.length s.length) s (w8.alloc (Obj.cells #[.int .i64 C, .slice ga L.length gc] 48)) ∧ LO w5.heap.size w6.heap.size (.slice (some ⟨x2, 0, none⟩) t.length t.length) t (w8.alloc (Obj.cells #[.int .i64 C, .slice ga L.length gc] 48)) ∧ LO w6.heap.size w7.heap.size (.slice (some ⟨x3, 0, none⟩) u.length u.length) u (w8.alloc (Obj.cells #[.int .i64 C, .slice ga L.length gc] 48)) ∧ LO w7.heap.size w8.heap.size (.slice ga L.length gc) L (w8.alloc (Obj.cells #[.int .i64 C, .slice ga L.length gc] 48))) :=
    ⟨((Z7.out.1.next hb8).next ha8).cons (heap_alloc_new _ _), (Z7.out.2.1.next hb8).next ha8, (Z7.out.2.2.1.next hb8).next ha8, (Z7.out.2.2.2.1.next hb8).next ha8, (Z7.out.2.2.2.2.next hb8).next ha8, ⟨hg8.bel ha8, fun g hg => (IS.lt hg8 g hg).2⟩⟩
  have hs8 := hb8.size
  have hKz : Hid (w7.heap[K0]? = some (Obj.cells #[.int .i64 C, .slice sa L.length sc] 48)) := Z7.out.1.at_ (K0, Obj.cells #[.int .i64 C, .slice sa L.length sc] 48) (by simp)
  have k8 := (hb8.block K0 (blk_at hKz.out)).trans hKz.out
  clear hg8 hb8 ha8 Z7 hKz
  obtain ⟨p0, p1, pf, pl⟩ := two_ir k8
  clear k8
  go_wp2_with (fail)
  clear p0 p1 pf pl
  obtain ⟨V8, hV8⟩ : ∃ V8, V8 = w8.alloc (Obj.cells #[.int .i64 C, .slice ga L.length gc] 48) := ⟨_, rfl⟩
  obtain ⟨K1, hK1⟩ : ∃ K1, K1 = w8.heap.size := ⟨_, rfl⟩
  rw [← hV8] at Z8 ⊢
  rw [← hK1] at Z8 hs8 ⊢
  clear hV8 hK1
  obtain ⟨b0, e0⟩ : ∃ b, b = V4.heap.size := ⟨_, rfl⟩
  obtain ⟨b1, e1⟩ : ∃ b, b = w5.heap.size := ⟨_, rfl⟩
  obtain ⟨b2, e2⟩ : ∃ b, b = w6.heap.size := ⟨_, rfl⟩
  obtain ⟨b3, e3⟩ : ∃ b, b = w7.heap.size := ⟨_, rfl⟩
  rw [← e0, ← e1, ← e2, ← e3] at Z8
  have HO : Hid (w.heap.size ≤ K0 ∧ K0 < b0 ∧ b0 ≤ b1 ∧ b1 ≤ b2 ∧ b2 ≤ b3 ∧ b3 ≤ K1) := ⟨hK0, by omega, by omega, by omega, by omega, by omega⟩
  clear e0 e1 e2 e3 hK0 hs4 hs5 hs6 hs7 hs8
  -- the answers are alike
  refine (eqIR C (by have := HLl.out; omega) Z8.out.2.2.2.2.2.is.rg Z8.out.2.1.is.rg).mono ?_
  rintro e V9 ⟨rfl, hb9⟩
  have Z9 : Hid (LV w [(K1, Obj.cells #[.int .i64 C, .slice ga L.length gc] 48), (K0, Obj.cells #[.int .i64 C, .slice sa L.length sc] 48)] V9 ∧ LO w.heap.size K0 (.slice sa L.length sc) L V9 ∧ LO b0 b1 (.slice (some ⟨x1, 0, none⟩) s.length s.length) s V9 ∧ LO b1 b2 (.slice (some ⟨x2, 0, none⟩) t.length t.length) t V9 ∧ LO b2 b3 (.slice (some ⟨x3, 0, none⟩) u.length u.length) u V9 ∧ LO b3 K1 (.slice ga L.length gc) L V9) :=
    ⟨Z8.out.1.next hb9, Z8.out.2.1.next hb9, Z8.out.2.2.1.next hb9, Z8.out.2.2.2.1.next hb9, Z8.out.2.2.2.2.1.next hb9, Z8.out.2.2.2.2.2.next hb9⟩
  clear hb9 Z8
  go_wp2_with (fail)
  refine (toInt64S_any HL.out.1 (H.out.1.below Z9.out.1.bl)).mono ?_
  rintro e V10 ⟨y10, rfl, hi10, hb10⟩
  have Z10 : Hid (LV w [(K1, Obj.cells #[.int .i64 C, .slice ga L.length gc] 48), (K0, Obj.cells #[.int .i64 C, .slice sa L.length sc] 48)] V10 ∧ LO w.heap.size K0 (.slice sa L.length sc) L V10 ∧ LO b0 b1 (.slice (some ⟨x1, 0, none⟩) s.length s.length) s V10 ∧ LO b1 b2 (.slice (some ⟨x2, 0, none⟩) t.length t.length) t V10 ∧ LO b2 b3 (.slice (some ⟨x3, 0, none⟩) u.length u.length) u V10 ∧ LO b3 K1 (.slice ga L.length gc) L V10) := ⟨Z9.out.1.next hb10, Z9.out.2.1.next hb10, Z9.out.2.2.1.next hb10, Z9.out.2.2.2.1.next hb10, Z9.out.2.2.2.2.1.next hb10, Z9.out.2.2.2.2.2.next hb10⟩
  have HY : Hid (RdI V10 _ _) := hi10.rg
  clear hi10 hb10 Z9
  go_wp2_with (fail)
  refine (eqInt64S_same (by have := HL.out.1; omega) Z10.out.2.2.1.is.rg HY.out).mono ?_
  rintro e V11 ⟨rfl, hb11⟩
  have Z11 : Hid (LV w [(K1, Obj.cells #[.int .i64 C, .slice ga L.length gc] 48), (K0, Obj.cells #[.int .i64 C, .slice sa L.length sc] 48)] V11 ∧ LO w.heap.size K0 (.slice sa L.length sc) L V11 ∧ LO b0 b1 (.slice (some ⟨x1, 0, none⟩) s.length s.length) s V11 ∧ LO b1 b2 (.slice (some ⟨x2, 0, none⟩) t.length t.length) t V11 ∧ LO b2 b3 (.slice (some ⟨x3, 0, none⟩) u.length u.length) u V11 ∧ LO b3 K1 (.slice ga L.length gc) L V11) := ⟨Z10.out.1.next hb11, Z10.out.2.1.next hb11, Z10.out.2.2.1.next hb11, Z10.out.2.2.2.1.next hb11, Z10.out.2.2.2.2.1.next hb11, Z10.out.2.2.2.2.2.next hb11⟩
  clear hb11 Z10 HY
  go_wp2_with (fail)
  refine (toInt64S_any HL.out.2.1 (H.out.2.1.below Z11.out.1.bl)).mono ?_
  rintro e V12 ⟨y12, rfl, hi12, hb12⟩
  have Z12 : Hid (LV w [(K1, Obj.cells #[.int .i64 C, .slice ga L.length gc] 48), (K0, Obj.cells #[.int .i64 C, .slice sa L.length sc] 48)] V12 ∧ LO w.heap.size K0 (.slice sa L.length sc) L V12 ∧ LO b0 b1 (.slice (some ⟨x1, 0, none⟩) s.length s.length) s V12 ∧ LO b1 b2 (.slice (some ⟨x2, 0, none⟩) t.length t.length) t V12 ∧ LO b2 b3 (.slice (some ⟨x3, 0, none⟩) u.length u.length) u V12 ∧ LO b3 K1 (.slice ga L.length gc) L V12) := ⟨Z11.out.1.next hb12, Z11.out.2.1.next hb12, Z11.out.2.2.1.next hb12, Z11.out.2.2.2.1.next hb12, Z11.out.2.2.2.2.1.next hb12, Z11.out.2.2.2.2.2.next hb12⟩
  have HY : Hid (RdI V12 _ _) := hi12.rg
  clear hi12 hb12 Z11
  go_wp2_with (fail)
  refine (eqInt64S_same (by have := HL.out.2.1; omega) Z12.out.2.2.2.1.is.rg HY.out).mono ?_
  rintro e V13 ⟨rfl, hb13⟩
  have Z13 : Hid (LV w [(K1, Obj.cells #[.int .i64 C, .slice ga L.length gc] 48), (K0, Obj.cells #[.int .i64 C, .slice sa L.length sc] 48)] V13 ∧ LO w.heap.size K0 (.slice sa L.length sc) L V13 ∧ LO b0 b1 (.slice (some ⟨x1, 0, none⟩) s.length s.length) s V13 ∧ LO b1 b2 (.slice (some ⟨x2, 0, none⟩) t.length t.length) t V13 ∧ LO b2 b3 (.slice (some ⟨x3, 0, none⟩) u.length u.length) u V13 ∧ LO b3 K1 (.slice ga L.length gc) L V13) := ⟨Z12.out.1.next hb13, Z12.out.2.1.next hb13, Z12.out.2.2.1.next hb13, Z12.out.2.2.2.1.next hb13, Z12.out.2.2.2.2.1.next hb13, Z12.out.2.2.2.2.2.next hb13⟩
  clear hb13 Z12 HY
  go_wp2_with (fail)
  refine (toInt64S_any HL.out.2.2 (H.out.2.2.1.below Z13.out.1.bl)).mono ?_
  rintro e V14 ⟨y14, rfl, hi14, hb14⟩
  have Z14 : Hid (LV w [(K1, Obj.cells #[.int .i64 C, .slice ga L.length gc] 48), (K0, Obj.cells #[.int .i64 C, .slice sa L.length sc] 48)] V14 ∧ LO w.heap.size K0 (.slice sa L.length sc) L V14 ∧ LO b0 b1 (.slice (some ⟨x1, 0, none⟩) s.length s.length) s V14 ∧ LO b1 b2 (.slice (some ⟨x2, 0, none⟩) t.length t.length) t V14 ∧ LO b2 b3 (.slice (some ⟨x3, 0, none⟩) u.length u.length) u V14 ∧ LO b3 K1 (.slice ga L.length gc) L V14) := ⟨Z13.out.1.next hb14, Z13.out.2.1.next hb14, Z13.out.2.2.1.next hb14, Z13.out.2.2.2.1.next hb14, Z13.out.2.2.2.2.1.next hb14, Z13.out.2.2.2.2.2.next hb14⟩
  have HY : Hid (RdI V14 _ _) := hi14.rg
  clear hi14 hb14 Z13
  go_wp2_with (fail)
  refine (eqInt64S_same (by have := HL.out.2.2; omega) Z14.out.2.2.2.2.1.is.rg HY.out).mono ?_
  rintro e V15 ⟨rfl, hb15⟩
  have Z15 : Hid (LV w [(K1, Obj.cells #[.int .i64 C, .slice ga L.length gc] 48), (K0, Obj.cells #[.int .i64 C, .slice sa L.length sc] 48)] V15 ∧ LO w.heap.size K0 (.slice sa L.length sc) L V15 ∧ LO b0 b1 (.slice (some ⟨x1, 0, none⟩) s.length s.length) s V15 ∧ LO b1 b2 (.slice (some ⟨x2, 0, none⟩) t.length t.length) t V15 ∧ LO b2 b3 (.slice (some ⟨x3, 0, none⟩) u.length u.length) u V15 ∧ LO b3 K1 (.slice ga L.length gc) L V15) := ⟨Z14.out.1.next hb15, Z14.out.2.1.next hb15, Z14.out.2.2.1.next hb15, Z14.out.2.2.2.1.next hb15, Z14.out.2.2.2.2.1.next hb15, Z14.out.2.2.2.2.2.next hb15⟩
  clear hb15 Z14 HY
  obtain ⟨N1, hN1⟩ : ∃ N, N = (1 : Int) + s.length := ⟨_, rfl⟩
  obtain ⟨N2, hN2⟩ : ∃ N, N = N1 + t.length := ⟨_, rfl⟩
  obtain ⟨N3, hN3⟩ : ∃ N, N = N2 + u.length := ⟨_, rfl⟩
  have HN : Hid ((N1 = 1 + s.length ∧ N2 = N1 + t.length ∧ N3 = N2 + u.length) ∧ 0 ≤ N1 ∧ N1 ≤ 2000000 ∧ 0 ≤ N2 ∧ N2 ≤ 4000000) := ⟨⟨hN1, hN2, hN3⟩, by omega, by have := HL.out.1; omega, by omega, by have := HL.out.1; have := HL.out.2.1; omega⟩
  have hN30 : ¬ N3 < 0 := by omega
  clear hN1 hN2 hN3
  go_wp2_with (fail)
  refine (markIO (s := s) 1 HL.out.1 (by have := HN.out; omega) (by have := HN.out; omega) Z15.out.2.2.1).mono ?_
  rintro e V16 ⟨rfl, hm16, hc16⟩
  have Z16 : Hid (LV w [(K1, Obj.cells #[.int .i64 C, .slice ga L.length gc] 48), (K0, Obj.cells #[.int .i64 C, .slice sa L.length sc] 48)] V16 ∧ LO w.heap.size K0 (.slice sa L.length sc) L V16 ∧ LO b0 b1 (.slice (some ⟨x1, 0, none⟩) s.length s.length) (marks 1 s.length) V16 ∧ LO b1 b2 (.slice (some ⟨x2, 0, none⟩) t.length t.length) t V16 ∧ LO b2 b3 (.slice (some ⟨x3, 0, none⟩) u.length u.length) u V16 ∧ LO b3 K1 (.slice ga L.length gc) L V16) :=
    ⟨Z15.out.1.chg hc16 (by have := HO.out; omega) (fun p hp => by have := HO.out; simp at hp; rcases hp with rfl | rfl <;> simp <;> omega), Z15.out.2.1.chg hc16 (by have := HO.out; omega), hm16, Z15.out.2.2.2.1.chg hc16 (by have := HO.out; omega), Z15.out.2.2.2.2.1.chg hc16 (by have := HO.out; omega), Z15.out.2.2.2.2.2.chg hc16 (by have := HO.out; omega)⟩
  clear hm16 hc16 Z15
  rw [← HN.out.1.1]
  go_wp2_with (fail)
  refine (markIO (s := t) N1 HL.out.2.1 (by have := HN.out; omega) (by have := HN.out; omega) Z16.out.2.2.2.1).mono ?_
  rintro e V17 ⟨rfl, hm17, hc17⟩
  have Z17 : Hid (LV w [(K1, Obj.cells #[.int .i64 C, .slice ga L.length gc] 48), (K0, Obj.cells #[.int .i64 C, .slice sa L.length sc] 48)] V17 ∧ LO w.heap.size K0 (.slice sa L.length sc) L V17 ∧ LO b0 b1 (.slice (some ⟨x1, 0, none⟩) s.length s.length) (marks 1 s.length) V17 ∧ LO b1 b2 (.slice (some ⟨x2, 0, none⟩) t.length t.length) (marks N1 t.length) V17 ∧ LO b2 b3 (.slice (some ⟨x3, 0, none⟩) u.length u.length) u V17 ∧ LO b3 K1 (.slice ga L.length gc) L V17) :=
    ⟨Z16.out.1.chg hc17 (by have := HO.out; omega) (fun p hp => by have := HO.out; simp at hp; rcases hp with rfl | rfl <;> simp <;> omega), Z16.out.2.1.chg hc17 (by have := HO.out; omega), Z16.out.2.2.1.chg hc17 (by have := HO.out; omega), hm17, Z16.out.2.2.2.2.1.chg hc17 (by have := HO.out; omega), Z16.out.2.2.2.2.2.chg hc17 (by have := HO.out; omega)⟩
  clear hm17 hc17 Z16
  rw [← HN.out.1.2.1]
  go_wp2_with (fail)
  refine (markIO (s := u) N2 HL.out.2.2 (by have := HN.out; omega) (by have := HN.out; omega) Z17.out.2.2.2.2.1).mono ?_
  rintro e V18 ⟨rfl, hm18, hc18⟩
  have Z18 : Hid (LV w [(K1, Obj.cells #[.int .i64 C, .slice ga L.length gc] 48), (K0, Obj.cells #[.int .i64 C, .slice sa L.length sc] 48)] V18 ∧ LO w.heap.size K0 (.slice sa L.length sc) L V18 ∧ LO b0 b1 (.slice (some ⟨x1, 0, none⟩) s.length s.length) (marks 1 s.length) V18 ∧ LO b1 b2 (.slice (some ⟨x2, 0, none⟩) t.length t.length) (marks N1 t.length) V18 ∧ LO b2 b3 (.slice (some ⟨x3, 0, none⟩) u.length u.length) (marks N2 u.length) V18 ∧ LO b3 K1 (.slice ga L.length gc) L V18) :=
    ⟨Z17.out.1.chg hc18 (by have := HO.out; omega) (fun p hp => by have := HO.out; simp at hp; rcases hp with rfl | rfl <;> simp <;> omega), Z17.out.2.1.chg hc18 (by have := HO.out; omega), Z17.out.2.2.1.chg hc18 (by have := HO.out; omega), Z17.out.2.2.2.1.chg hc18 (by have := HO.out; omega), hm18, Z17.out.2.2.2.2.2.chg hc18 (by have := HO.out; omega)⟩
  clear hm18 hc18 Z17
  rw [← HN.out.1.2.2]
  have k1 := Z18.out.1.at_ (K1, Obj.cells #[.int .i64 C, .slice ga L.length gc] 48) (by simp)
  have k0 := Z18.out.1.at_ (K0, Obj.cells #[.int .i64 C, .slice sa L.length sc] 48) (by simp)
  obtain ⟨p0, p1, pf, pl⟩ := two_ir k0
  obtain ⟨q0, q1, qf, ql⟩ := two_ir k1
  clear k0 k1
  go_wp2_with (fail)
  clear p0 p1 pf pl q0 q1 qf ql
  refine (eqIR C (by have := HLl.out; omega) Z18.out.2.2.2.2.2.is.rg Z18.out.2.1.is.rg).mono ?_
  rintro e V19 ⟨rfl, hb19⟩
  have Z19 : Hid (LV w [(K1, Obj.cells #[.int .i64 C, .slice ga L.length gc] 48), (K0, Obj.cells #[.int .i64 C, .slice sa L.length sc] 48)] V19 ∧ LO w.heap.size K0 (.slice sa L.length sc) L V19 ∧ LO b0 b1 (.slice (some ⟨x1, 0, none⟩) s.length s.length) (marks 1 s.length) V19 ∧ LO b1 b2 (.slice (some ⟨x2, 0, none⟩) t.length t.length) (marks N1 t.length) V19 ∧ LO b2 b3 (.slice (some ⟨x3, 0, none⟩) u.length u.length) (marks N2 u.length) V19 ∧ LO b3 K1 (.slice ga L.length gc) L V19) := ⟨Z18.out.1.next hb19, Z18.out.2.1.next hb19, Z18.out.2.2.1.next hb19, Z18.out.2.2.2.1.next hb19, Z18.out.2.2.2.2.1.next hb19, Z18.out.2.2.2.2.2.next hb19⟩
  clear hb19 Z18
  have k1 := Z19.out.1.at_ (K1, Obj.cells #[.int .i64 C, .slice ga L.length gc] 48) (by simp)
  have k0 := Z19.out.1.at_ (K0, Obj.cells #[.int .i64 C, .slice sa L.length sc] 48) (by simp)
  obtain ⟨p0, p1, pf, pl⟩ := two_ir k0
  obtain ⟨q0, q1, qf, ql⟩ := two_ir k1
  clear k0 k1
  go_wp2_with (fail)
  clear p0 p1 pf pl q0 q1 qf ql
  refine (markIR C (by have := HLl.out; omega) Z19.out.2.2.2.2.2.is Z19.out.2.2.2.2.2.hi).mono ?_
  rintro e V20 ⟨rfl, hm20, hc20⟩
  have Z20 : Hid (LV w [(K1, Obj.cells #[.int .i64 C, .slice ga L.length gc] 48), (K0, Obj.cells #[.int .i64 C, .slice sa L.length sc] 48)] V20 ∧ LO w.heap.size K0 (.slice sa L.length sc) L V20 ∧ LO b0 b1 (.slice (some ⟨x1, 0, none⟩) s.length s.length) (marks 1 s.length) V20 ∧ LO b1 b2 (.slice (some ⟨x2, 0, none⟩) t.length t.length) (marks N1 t.length) V20 ∧ LO b2 b3 (.slice (some ⟨x3, 0, none⟩) u.length u.length) (marks N2 u.length) V20 ∧ LO b3 K1 (.slice ga L.length gc) (marks 1 L.length) V20) :=
    ⟨Z19.out.1.chg hc20 (by have := HO.out; omega) (fun p hp => by have := HO.out; simp at hp; rcases hp with rfl | rfl <;> simp <;> omega), Z19.out.2.1.chg hc20 (by have := HO.out; omega), Z19.out.2.2.1.chg hc20 (by have := HO.out; omega), Z19.out.2.2.2.1.chg hc20 (by have := HO.out; omega), Z19.out.2.2.2.2.1.chg hc20 (by have := HO.out; omega), ⟨hm20, Z19.out.2.2.2.2.2.hi⟩⟩
  clear hm20 hc20 Z19
  obtain ⟨TT, hTT⟩ : ∃ TT, TT = 1 + (L.length : Int) := ⟨_, rfl⟩
  have hT0 : ¬ TT < 0 := by omega
  have HT : Hid (TT = 1 + (L.length : Int)) := hTT
  rw [← hTT]
  clear hTT
  have k1 := Z20.out.1.at_ (K1, Obj.cells #[.int .i64 C, .slice ga L.length gc] 48) (by simp)
  have k0 := Z20.out.1.at_ (K0, Obj.cells #[.int .i64 C, .slice sa L.length sc] 48) (by simp)
  obtain ⟨p0, p1, pf, pl⟩ := two_ir k0
  obtain ⟨q0, q1, qf, ql⟩ := two_ir k1
  clear k0 k1
  go_wp2_with (fail)
  clear p0 p1 pf pl q0 q1 qf ql
  refine (heldIR C (by have := HLl.out; omega) Z20.out.2.2.2.2.2.is).mono ?_
  rintro e V21 ⟨rfl, hb21⟩
  have Z21 : Hid (LV w [(K1, Obj.cells #[.int .i64 C, .slice ga L.length gc] 48), (K0, Obj.cells #[.int .i64 C, .slice sa L.length sc] 48)] V21 ∧ LO w.heap.size K0 (.slice sa L.length sc) L V21 ∧ LO b0 b1 (.slice (some ⟨x1, 0, none⟩) s.length s.length) (marks 1 s.length) V21 ∧ LO b1 b2 (.slice (some ⟨x2, 0, none⟩) t.length t.length) (marks N1 t.length) V21 ∧ LO b2 b3 (.slice (some ⟨x3, 0, none⟩) u.length u.length) (marks N2 u.length) V21 ∧ LO b3 K1 (.slice ga L.length gc) (marks 1 L.length) V21) := ⟨Z20.out.1.next hb21, Z20.out.2.1.next hb21, Z20.out.2.2.1.next hb21, Z20.out.2.2.2.1.next hb21, Z20.out.2.2.2.2.1.next hb21, Z20.out.2.2.2.2.2.next hb21⟩
  clear hb21 Z20
  rw [← HT.out]
  go_wp2_with (fail)
  refine (toInt64S_any HL.out.1 (H.out.1.below Z21.out.1.bl)).mono ?_
  rintro e V22 ⟨y1, rfl, hj1, hc1⟩
  have hD1 := Z21.out.1.bl.trans (hc1.mono Z21.out.1.bl.size)
  go_wp2_with (fail)
  refine (toInt64S_any HL.out.2.1 (H.out.2.1.below hD1)).mono ?_
  rintro e V23 ⟨y2, rfl, hj2, hc2⟩
  have hD2 := hD1.trans (hc2.mono hD1.size)
  go_wp2_with (fail)
  refine (toInt64S_any HL.out.2.2 (H.out.2.2.1.below hD2)).mono ?_
  rintro e V24 ⟨y3, rfl, hj3, hc3⟩
  go_wp2_with (fail)
  refine (HIM.out _ y1 y2 y3 _ _ _ ((hj1.rg.below hc2).below hc3) (hj2.rg.below hc3) hj3.rg).mono ?_
  rintro e V25 ⟨vh, rfl, hh, hc4⟩
  obtain ⟨ha, hcc, rfl⟩ := hh.form
  have hcA : Below V25.heap.size V25 (V25.alloc (Obj.cells #[.int .i64 C, .slice ha L.length hcc] 48)) := by (repeat' (first | (with_reducible exact Below.refl _ _) | (with_reducible assumption) | (with_reducible refine Below.setCell ?_ ?_ _) | (with_reducible refine Below.alloc ?_ ?_ _) | (with_reducible refine below_drewN ?_ _) | (with_reducible refine Below.drew ?_) | (with_reducible exact Nat.le_refl _) | omega | (simp; done) | (simp; omega)))
  have hall : Below V21.heap.size V21 (V25.alloc (Obj.cells #[.int .i64 C, .slice ha L.length hcc] 48)) := (((hc1.trans (hc2.mono hc1.size)).trans (hc3.mono (hc1.trans (hc2.mono hc1.size)).size)).trans (hc4.mono ((hc1.trans (hc2.mono hc1.size)).trans (hc3.mono (hc1.trans (hc2.mono hc1.size)).size)).size)).alloc (((hc1.trans (hc2.mono hc1.size)).trans (hc3.mono (hc1.trans (hc2.mono hc1.size)).size)).trans (hc4.mono ((hc1.trans (hc2.mono hc1.size)).trans (hc3.mono (hc1.trans (hc2.mono hc1.size)).size)).size)).size _
  have ZA : Hid ((LV w [(K1, Obj.cells #[.int .i64 C, .slice ga L.length gc] 48), (K0, Obj.cells #[.int .i64 C, .slice sa L.length sc] 48)] (V25.alloc (Obj.cells #[.int .i64 C, .slice ha L.length hcc] 48)) ∧ LO w.heap.size K0 (.slice sa L.length sc) L (V25.alloc (Obj.cells #[.int .i64 C, .slice ha L.length hcc] 48)) ∧ LO b0 b1 (.slice (some ⟨x1, 0, none⟩) s.length s.length) (marks 1 s.length) (V25.alloc (Obj.cells #[.int .i64 C, .slice ha L.length hcc] 48)) ∧ LO b1 b2 (.slice (some ⟨x2, 0, none⟩) t.length t.length) (marks N1 t.length) (V25.alloc (Obj.cells #[.int .i64 C, .slice ha L.length hcc] 48)) ∧ LO b2 b3 (.slice (some ⟨x3, 0, none⟩) u.length u.length) (marks N2 u.length) (V25.alloc (Obj.cells #[.int .i64 C, .slice ha L.length hcc] 48)) ∧ LO b3 K1 (.slice ga L.length gc) (marks 1 L.length) (V25.alloc (Obj.cells #[.int .i64 C, .slice ha L.length hcc] 48))) ∧ IS (V25.alloc (Obj.cells #[.int .i64 C, .slice ha L.length hcc] 48)) V24.heap.size (.slice ha L.length hcc) L) := ⟨⟨Z21.out.1.next hall, Z21.out.2.1.next hall, Z21.out.2.2.1.next hall, Z21.out.2.2.2.1.next hall, Z21.out.2.2.2.2.1.next hall, Z21.out.2.2.2.2.2.next hall⟩, hh.bel hcA⟩
  have kz : (V25.alloc (Obj.cells #[.int .i64 C, .slice ha L.length hcc] 48)).heap[K0]? = some (Obj.cells #[.int .i64 C, .slice sa L.length sc] 48) := ZA.out.1.1.at_ (K0, Obj.cells #[.int .i64 C, .slice sa L.length sc] 48) (by simp)
  have kl : K0 < V25.heap.size := by
    have h1 := blk_at (Z21.out.1.at_ (K0, Obj.cells #[.int .i64 C, .slice sa L.length sc] 48) (by simp))
    have h2 := hc1.size
    have h3 := hc2.size
    have h4 := hc3.size
    have h5 := hc4.size
    have h6 : K0 < V21.heap.size := h1
    omega
  have ky : V25.heap[K0]? = some (Obj.cells #[.int .i64 C, .slice sa L.length sc] 48) := (Below.heap_alloc _ _ _ kl).symm.trans kz
  clear hj1 hc1 hD1 hj2 hc2 hD2 hj3 hc3 hh hc4 hall hcA Z21 kz
  obtain ⟨p0, p1, pf, pl⟩ := two_ir ky
  clear ky
  go_wp2_with (fail)
  clear p0 p1 pf pl kl
  obtain ⟨VA, hVA⟩ : ∃ VA, VA = V25.alloc (Obj.cells #[.int .i64 C, .slice ha L.length hcc] 48) := ⟨_, rfl⟩
  rw [← hVA] at ZA ⊢
  clear hVA
  refine (eqIR C (by have := HLl.out; omega) ZA.out.2.rg ZA.out.1.2.1.is.rg).mono ?_
  rintro e VB ⟨rfl, hbB⟩
  have ZB : Hid (LV w [(K1, Obj.cells #[.int .i64 C, .slice ga L.length gc] 48), (K0, Obj.cells #[.int .i64 C, .slice sa L.length sc] 48)] VB ∧ LO w.heap.size K0 (.slice sa L.length sc) L VB ∧ LO b0 b1 (.slice (some ⟨x1, 0, none⟩) s.length s.length) (marks 1 s.length) VB ∧ LO b1 b2 (.slice (some ⟨x2, 0, none⟩) t.length t.length) (marks N1 t.length) VB ∧ LO b2 b3 (.slice (some ⟨x3, 0, none⟩) u.length u.length) (marks N2 u.length) VB ∧ LO b3 K1 (.slice ga L.length gc) (marks 1 L.length) VB) := ⟨ZA.out.1.1.next hbB, ZA.out.1.2.1.next hbB, ZA.out.1.2.2.1.next hbB, ZA.out.1.2.2.2.1.next hbB, ZA.out.1.2.2.2.2.1.next hbB, ZA.out.1.2.2.2.2.2.next hbB⟩
  clear hbB ZA
  have k1 := ZB.out.1.at_ (K1, Obj.cells #[.int .i64 C, .slice ga L.length gc] 48) (by simp)
  have k0 := ZB.out.1.at_ (K0, Obj.cells #[.int .i64 C, .slice sa L.length sc] 48) (by simp)
  obtain ⟨p0, p1, pf, pl⟩ := two_ir k0
  obtain ⟨q0, q1, qf, ql⟩ := two_ir k1
  clear k0 k1
  go_wp2_with (fail)
  clear p0 p1 pf pl q0 q1 qf ql
  refine (heldIR C (by have := HLl.out; omega) ZB.out.2.2.2.2.2.is).mono ?_
  rintro e VC ⟨rfl, hbC⟩
  have BC : Hid (Below w.heap.size w VC) := (ZB.out.1.next hbC).bl
  clear hbC ZB
  rw [← HT.out]
  go_wp2
  go_returns
  exact ⟨rfl, BC.out⟩

set_option maxRecDepth 100000 in
theorem mi_lifted (os : Os) (started : os.Started) (H : Type) (enc : TypeId × Value → H) :
    ReturnsInHanded {} Try.checked os 7 .any (Rows.fnExactModImageSpec.pre6 enc Try.prog Try.f7 Rows.fnExactModImageRow.domain false) (Rows.fnExactModImageSpec.post enc Try.prog Try.f7 false true false false) := by
  refine returnsInHanded_of_change (C := Try.checked) own started (by kernel_rfl) Try.func7
    (ChangeSpec.witness6 (enc := enc) (C := Try.checked) false ⟨#[], #[.slice none 0 0, .slice none 0 0, .slice none 0 0], []⟩ 8 (by kernel_rfl) (by kernel_rfl) (by kernel_rfl) (by kernel_rfl)) ?_
  intro W base args ds gs before hval0 hW hcnd _
  have hval : ∀ (j : Nat) t v, Try.f7.params[j]? = some t → args[j]? = some v → Value.okWide Try.prog W .any base t v := hval0
  have hW' := hW
  obtain ⟨p, q, hA0, hV, rfl, hfz, hnd⟩ := hW
  have hA : DataW.TrodAll enc Try.prog W 0 (fun _ => true) true Try.f7.params.toList args.toList ds p := hA0
  rw [Try.params7] at hA hval
  obtain ⟨v0, vs0, d0, ds0, p0, q0, hargs, rfl, rfl, h0, r0⟩ := trodAll_cons hA
  obtain ⟨v1, vs1, d1, ds1, p1, q1, rfl, rfl, rfl, h1, r1⟩ := trodAll_cons r0
  obtain ⟨v2, vs2, d2, ds2, p2, q2, rfl, rfl, rfl, h2, r2⟩ := trodAll_cons r1
  obtain ⟨rfl, rfl, rfl⟩ := trodAll_nil r2
  obtain rfl : args = #[v0, v1, v2] := by cases args; simp_all
  obtain ⟨rfl, rfl⟩ := trodVars_none hV
  have k0 := h0
  have lt0 : ∀ x ∈ p0, x.block < W.heap.size := by obtain ⟨m, hm⟩ := k0; exact DataW.trod_lt m _ _ _ hm
  obtain ⟨sa0, sn0, sc0, s0, rfl, ri0, sl0⟩ := ints_open (hval 0 30 v0 rfl rfl) h0
  have k1 := h1
  have lt1 : ∀ x ∈ p1, x.block < W.heap.size := by obtain ⟨m, hm⟩ := k1; exact DataW.trod_lt m _ _ _ hm
  obtain ⟨sa1, sn1, sc1, s1, rfl, ri1, sl1⟩ := ints_open (hval 1 30 v1 rfl rfl) h1
  have k2 := h2
  have lt2 : ∀ x ∈ p2, x.block < W.heap.size := by obtain ⟨m, hm⟩ := k2; exact DataW.trod_lt m _ _ _ hm
  obtain ⟨sa2, sn2, sc2, s2, rfl, ri2, sl2⟩ := ints_open (hval 2 30 v2 rfl rfl) h2
  clear hA0 hval0
  refine (law_mi s0 sl0 ri0 s1 sl1 ri1 s2 sl2 ri2).mono fun e W' ⟨he, hg⟩ => ?_
  subst he
  exact ⟨_, rfl, _, _, _, [], _, [], hW', trodAll_mk1 (shut_bool Try.underlying4 _), (trodAll_cons_mk (Below.trod laidOut (by kernel_rfl) (of_decide_eq_true (by kernel_rfl)) k0 hg lt0) (trodAll_cons_mk (Below.trod laidOut (by kernel_rfl) (of_decide_eq_true (by kernel_rfl)) k1 hg lt1) (trodAll_cons_mk (Below.trod laidOut (by kernel_rfl) (of_decide_eq_true (by kernel_rfl)) k2 hg lt2) trodAll_mk0))), rfl, hg.frame _, fun h => by cases h⟩

theorem mi_over : Rows.fnExactModImageRow.holds Try.pinned (OpenSpec.ofChange Rows.fnExactModImageSpec) :=
  OpenClaim.holds_of_wide 7 Try.f7 rfl rfl rfl rfl rfl rfl rfl ⟨rfl, rfl, rfl, rfl, rfl⟩ rfl rfl rfl rfl rfl (by kernel_rfl) Try.func7 (by kernel_rfl)
    (of_decide_eq_true (by kernel_rfl)) (by unfold Func.isWrapper; first | (rw [if_pos (by decide +kernel)]; kernel_rfl) | (rw [if_neg (by decide +kernel)]; exact ⟨rfl, rfl⟩))
    (fun os started H enc _ => mi_lifted os started H enc)

theorem mi_proved : Rows.FnExactModImageSaid :=
  mi_over
#print axioms mi_proved

end Go.Proofs.Ytcjednfcfobblaa
