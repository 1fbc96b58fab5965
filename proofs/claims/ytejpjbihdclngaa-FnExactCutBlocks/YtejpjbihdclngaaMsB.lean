/- Proved here: messages by value: how the laws' package weighs, copies and compares them; how one that came in is read. No condition. -/
import Derived.Test.YtejpjbihdclngaaByL
import Derived.Test.YtejpjbihdclngaaByZ
import Derived.Test.YtejpjbihdclngaaLwS
import Derived.OpenShut
import Derived.Lib.SmallJoins
import Derived.Deep.Cut
namespace Go.Proofs.Ytejpjbihdclngaa
open Go.ChangeShapes Go.WideShapes Go.ChangeAt Go.RowKit Go.Joins Go.Deep
set_option linter.unusedVariables false
set_option linter.unusedSimpArgs false

theorem ms_four {w : World} {k : Nat} {a b c d : Value} {T : TypeId} (h : w.heap[k]? = some (.cells #[a, b, c, d] T)) :
    w.cell? ⟨k, 0, none⟩ = some a ∧ w.cell? ⟨k, 1, none⟩ = some b ∧ w.cell? ⟨k, 2, none⟩ = some c ∧ w.cell? ⟨k, 3, none⟩ = some d ∧ w.frozen? ⟨k, 0, none⟩ = false ∧ w.frozen? ⟨k, 1, none⟩ = false ∧ w.frozen? ⟨k, 2, none⟩ = false ∧ w.frozen? ⟨k, 3, none⟩ = false ∧ k < w.heap.size := ⟨cellOf h 0 rfl, cellOf h 1 rfl, cellOf h 2 rfl, cellOf h 3 rfl, frozOf h 0, frozOf h 1, frozOf h 2, frozOf h 3, ltOf h⟩
theorem ms_at1 (w : World) (a b : Obj) : ((w.alloc a).alloc b).heap[w.heap.size + 1]? = some b := by have := heap_alloc_new (w.alloc a) b; simpa using this
theorem ms_at2 (w : World) (a b c : Obj) : (((w.alloc a).alloc b).alloc c).heap[w.heap.size + 2]? = some c := by have := heap_alloc_new ((w.alloc a).alloc b) c; simpa using this

set_option maxHeartbeats 1600000 in
theorem szMessage_gen (A B C : Int) (a : Option Addr) (n c : Nat) (l : Int) (w : World) (h0 : 0 ≤ l) (h1 : l ≤ 1048576) (h2 : n ≤ maxLen) :
    Calls Try.prog 14 #[.agg #[.int .i64 A, .int .i64 B, .int .i64 C, .slice a n c], .int .i64 l] w fun e w' => ∃ r, e = .returned (.int .i64 r) ∧ (r < 0 ∨ (0 ≤ r ∧ r ≤ l ∧ (n : Int) ≤ 1048576)) ∧ Below w.heap.size w w' := by
  have H : Hid (n ≤ maxLen) := h2
  clear h2
  go_enter Try.func14, Try.ntmps14
  go_wp2_with (fail)
  refine (szByteS_gen a n c l _ h0 h1 H.out).mono ?_
  rintro e w1 ⟨q1, rfl, hq1, hb1⟩
  have HB1 : Hid (Below w.heap.size w w1) := (show Below w.heap.size w _ from by (repeat' (first | (with_reducible exact Below.refl _ _) | (with_reducible assumption) | (with_reducible refine Below.setCell ?_ ?_ _) | (with_reducible refine Below.alloc ?_ ?_ _) | (with_reducible refine below_drewN ?_ _) | (with_reducible refine Below.drew ?_) | (with_reducible exact Nat.le_refl _) | omega | (simp; done) | (simp; omega)))).trans (hb1.mono (by simp))
  clear hb1
  rcases hq1 with hneg | ⟨h3, h4, h5⟩
  · go_wp2
    go_returns
    exact ⟨-1, rfl, Or.inl (by omega), HB1.out⟩
  have h6 : ¬ q1 < 0 := by omega
  go_wp2
  go_returns
  exact ⟨q1, rfl, Or.inr ⟨h3, h4, h5⟩, HB1.out⟩

set_option maxHeartbeats 3200000 in
theorem toMessage_any (A B C : Int) {w : World} {v : Value} {s : List UInt8} (hn : s.length ≤ 1048576) (h : RBy w v s) :
    Calls Try.prog 16 #[.agg #[.int .i64 A, .int .i64 B, .int .i64 C, v]] w fun e w' => ∃ g, e = .returned (.agg #[.int .i64 A, .int .i64 B, .int .i64 C, .slice (some ⟨g, 0, none⟩) s.length s.length]) ∧ OBy w' w.heap.size (.slice (some ⟨g, 0, none⟩) s.length s.length) s ∧ Below w.heap.size w w' := by
  obtain ⟨a, c, rfl⟩ := h.form
  obtain ⟨n, hnn⟩ : ∃ n, n = s.length := ⟨_, rfl⟩
  rw [← hnn] at h ⊢
  have H : Hid (RBy w (.slice a n c) s ∧ s.length ≤ 1048576 ∧ n = s.length) := ⟨h, hn, hnn⟩
  clear h hn hnn
  obtain ⟨W0, hW0⟩ : ∃ W, W = ((w.alloc (.cells #[.int .i64 A, .int .i64 B, .int .i64 C, .slice a n c] 33)).alloc (.cells #[.int .i64 0, .int .i64 0, .int .i64 0, .slice none 0 0] 36)).alloc (.cells #[.int .i64 A, .int .i64 B, .int .i64 C, .slice none 0 0] 36) := ⟨_, rfl⟩
  have HW0 : Hid (Below w.heap.size w W0 ∧ W0.heap[w.heap.size + 1]? = some (.cells #[.int .i64 0, .int .i64 0, .int .i64 0, .slice none 0 0] 36) ∧ W0.heap[w.heap.size + 2]? = some (.cells #[.int .i64 A, .int .i64 B, .int .i64 C, .slice none 0 0] 36) ∧ W0.heap.size = w.heap.size + 3) := by
    rw [hW0]
    exact ⟨by (repeat' (first | (with_reducible exact Below.refl _ _) | (with_reducible assumption) | (with_reducible refine Below.setCell ?_ ?_ _) | (with_reducible refine Below.alloc ?_ ?_ _) | (with_reducible refine below_drewN ?_ _) | (with_reducible refine Below.drew ?_) | (with_reducible exact Nat.le_refl _) | omega | (simp; done) | (simp; omega))), (Below.heap_alloc _ _ _ (by simp)).trans (ms_at1 w _ _), ms_at2 w _ _ _, by simp⟩
  go_enter Try.func16, Try.ntmps16
  go_wp2_with (fail)
  rw [← hW0]
  clear hW0
  refine (toByteS_any H.out.2.1 (H.out.1.below HW0.out.1)).mono ?_
  rintro e w1 ⟨g1, rfl, hs1, hb1⟩
  rw [← H.out.2.2] at hs1 ⊢
  have k1 := (hb1.block _ (ltOf HW0.out.2.1)).trans HW0.out.2.1
  have k2 := (hb1.block _ (ltOf HW0.out.2.2.1)).trans HW0.out.2.2.1
  have HS : Hid (OBy w1 (w.heap.size + 3) (.slice (some ⟨g1, 0, none⟩) n n) s ∧ Below w.heap.size w w1) := ⟨by rw [← HW0.out.2.2.2]; exact hs1, HW0.out.1.trans (hb1.mono HW0.out.1.size)⟩
  clear hs1 hb1 HW0
  obtain ⟨p0, p1, p2, p3, pf0, pf1, pf2, pf3, pl⟩ := ms_four k1
  obtain ⟨q0, q1, q2, q3, qf0, qf1, qf2, qf3, ql⟩ := ms_four k2
  clear k1 k2
  go_wp2
  try simp only [Exit.inBlock, Exit.then]
  refine bodyPost_ret (by simp [results, Try.results16, go_sem, p0, p1, p2, p3, pl]; try rfl) rfl ⟨g1, rfl, ?_, ?_⟩
  · refine OG.low (B := w.heap.size + 3) (ownsRow_keep HS.out.1 fun q hq => ?_) (by omega)
    have h9 := (OG.lt HS.out.1 q hq).1
    rw [heap_setCell_other _ _ _ _ (by simp; omega), heap_setCell_other _ _ _ _ (by simp; omega), heap_setCell_other _ _ _ _ (by simp; omega), heap_setCell_other _ _ _ _ (by simp; omega), heap_setCell_other _ _ _ _ (by simp; omega)]
  · have hb := HS.out.2
    (repeat' (first | (with_reducible exact Below.refl _ _) | (with_reducible assumption) | (with_reducible refine Below.setCell ?_ ?_ _) | (with_reducible refine Below.alloc ?_ ?_ _) | (with_reducible refine below_drewN ?_ _) | (with_reducible refine Below.drew ?_) | (with_reducible exact Nat.le_refl _) | omega | (simp; done) | (simp; omega)))

set_option maxHeartbeats 1600000 in
theorem eqMessage_same (A B C : Int) {w : World} {va vb : Value} {s : List UInt8} (hn : s.length ≤ 1099511627776) (ha : RBy w va s) (hb : RBy w vb s) :
    Calls Try.prog 18 #[.agg #[.int .i64 A, .int .i64 B, .int .i64 C, va], .agg #[.int .i64 A, .int .i64 B, .int .i64 C, vb]] w fun e w' => e = .returned (.bool true) ∧ Below w.heap.size w w' := by
  obtain ⟨a1, c1', rfl⟩ := ha.form
  obtain ⟨a2, c2', rfl⟩ := hb.form
  obtain ⟨n, hnn⟩ : ∃ n, n = s.length := ⟨_, rfl⟩
  rw [← hnn] at ha hb ⊢
  have H : Hid (RBy w (.slice a1 n c1') s ∧ RBy w (.slice a2 n c2') s ∧ s.length ≤ 1099511627776) := ⟨ha, hb, hn⟩
  clear ha hb hn hnn
  go_enter Try.func18, Try.ntmps18
  go_wp2_with (fail)
  refine (eqByteS_same H.out.2.2 (H.out.1.below (by (repeat' (first | (with_reducible exact Below.refl _ _) | (with_reducible assumption) | (with_reducible refine Below.setCell ?_ ?_ _) | (with_reducible refine Below.alloc ?_ ?_ _) | (with_reducible refine below_drewN ?_ _) | (with_reducible refine Below.drew ?_) | (with_reducible exact Nat.le_refl _) | omega | (simp; done) | (simp; omega))))) (H.out.2.1.below (by (repeat' (first | (with_reducible exact Below.refl _ _) | (with_reducible assumption) | (with_reducible refine Below.setCell ?_ ?_ _) | (with_reducible refine Below.alloc ?_ ?_ _) | (with_reducible refine below_drewN ?_ _) | (with_reducible refine Below.drew ?_) | (with_reducible exact Nat.le_refl _) | omega | (simp; done) | (simp; omega)))))).mono ?_
  rintro e w1 ⟨rfl, hb1⟩
  have HB1 : Hid (Below w.heap.size w w1) := (show Below w.heap.size w _ from by (repeat' (first | (with_reducible exact Below.refl _ _) | (with_reducible assumption) | (with_reducible refine Below.setCell ?_ ?_ _) | (with_reducible refine Below.alloc ?_ ?_ _) | (with_reducible refine below_drewN ?_ _) | (with_reducible refine Below.drew ?_) | (with_reducible exact Nat.le_refl _) | omega | (simp; done) | (simp; omega)))).trans (hb1.mono (by simp; omega))
  clear hb1
  go_wp2
  go_returns
  exact ⟨rfl, HB1.out⟩

set_option maxRecDepth 100000 in
theorem bytes_cells {H : Type} {enc : TypeId × Value → H} {W : World} {fuel : Nat} {cs : List Value} {x : DataW H × List MemPlace} (h : DataW.trod enc Try.prog W 0 (fun _ => true) true fuel 22 cs = some x) :
    ∃ (a : Option Addr) (n c : Nat) (s : List UInt8), cs = [.slice a n c] ∧ RBy W (.slice a n c) s ∧ n ≤ maxLen := by
  have : Nonempty UInt8 := ⟨0⟩
  obtain ⟨a, n, c, s, hcs, h1, h2, _⟩ := rg_of_trod (Q := fun _ => True) Try.underlying22 (show Try.prog.cellsOf 5 = 1 by kernel_rfl) (by omega) byC_len (fun _ _ _ h => by_cell h) h
  exact ⟨a, n, c, s, hcs, h1, by rw [h1.len]; exact h2⟩

set_option maxRecDepth 100000 in
/-- A message that came in. -/
theorem message_open {H : Type} {enc : TypeId × Value → H} {W : World} {base : Nat} {v : Value} {d : DataW H} {p : List MemPlace}
    (hv : Value.okWide Try.prog W .any base 33 v) (h : DataW.Trod enc Try.prog W 0 (fun _ => true) true 33 v d p) :
    ∃ (A B C : Int) (a : Option Addr) (n c : Nat) (s : List UInt8), v = .agg #[.int .i64 A, .int .i64 B, .int .i64 C, .slice a n c] ∧ RBy W (.slice a n c) s ∧ n ≤ maxLen := by
  obtain ⟨cs, rfl, hsz⟩ := okWide_struct Try.underlying33 hv
  have k3 : Try.prog.cellsOf 33 = 4 := by kernel_rfl
  have k1 : Try.prog.cellsOf 2 = 1 := by kernel_rfl
  have ks : Try.prog.cellsOf 22 = 1 := by kernel_rfl
  rw [k3] at hsz
  obtain ⟨l⟩ := cs
  obtain ⟨c0, c1, c2, c3, rfl⟩ : ∃ c0 c1 c2 c3, l = [c0, c1, c2, c3] := by
    match l, hsz with
    | [c0, c1, c2, c3], _ => exact ⟨c0, c1, c2, c3, rfl⟩
  obtain ⟨fuel, hf⟩ := h
  obtain ⟨y0, y1, y2, y3, n, hx, hl, h0, h1, h2, h3⟩ := trod_struct4 Try.underlying33 hf
  obtain ⟨A, e0, _, _⟩ := DataW.trod_int Try.underlying2 h0
  obtain ⟨B, e1, _, _⟩ := DataW.trod_int Try.underlying2 h1
  obtain ⟨C, e2, _, _⟩ := DataW.trod_int Try.underlying2 h2
  obtain ⟨a, n, c, s, e3, r1, r2⟩ := bytes_cells h3
  simp [Value.cells, k1, ks] at e0 e1 e2 e3
  subst e0 e1 e2 e3
  exact ⟨A, B, C, a, n, c, s, rfl, r1, r2⟩

end Go.Proofs.Ytejpjbihdclngaa
