/- Proved here: tools by value: how the laws' package weighs, copies and compares them; how one that came in is read. No condition. -/
import Derived.Test.YtkacfjbhkgdpdaaTiM
import Derived.Test.YtkacfjbhkgdpdaaLwS
import Derived.Test.YtkacfjbhkgdpdaaNlQ
import Derived.Test.YtkacfjbhkgdpdaaAggOpen
import Derived.OpenShut
import Derived.Lib.SmallJoins
import Derived.Deep.Cut
import Derived.Deep.Slices
import Derived.Carry
namespace Go.Proofs.Ytkacfjbhkgdpdaa
open Go.ChangeShapes Go.WideShapes Go.ChangeAt Go.RowKit Go.Joins Go.Deep
set_option linter.unusedVariables false
set_option linter.unusedSimpArgs false

theorem tl_seven {w : World} {k : Nat} {a b c d e f g : Value} {T : TypeId} (h : w.heap[k]? = some (.cells #[a, b, c, d, e, f, g] T)) :
    w.cell? ⟨k, 0, none⟩ = some a ∧ w.cell? ⟨k, 1, none⟩ = some b ∧ w.cell? ⟨k, 2, none⟩ = some c ∧ w.cell? ⟨k, 3, none⟩ = some d ∧ w.cell? ⟨k, 4, none⟩ = some e ∧ w.cell? ⟨k, 5, none⟩ = some f ∧ w.cell? ⟨k, 6, none⟩ = some g ∧ w.frozen? ⟨k, 0, none⟩ = false ∧ w.frozen? ⟨k, 1, none⟩ = false ∧ w.frozen? ⟨k, 2, none⟩ = false ∧ w.frozen? ⟨k, 3, none⟩ = false ∧ w.frozen? ⟨k, 4, none⟩ = false ∧ w.frozen? ⟨k, 5, none⟩ = false ∧ w.frozen? ⟨k, 6, none⟩ = false ∧ k < w.heap.size := ⟨cellOf h 0 rfl, cellOf h 1 rfl, cellOf h 2 rfl, cellOf h 3 rfl, cellOf h 4 rfl, cellOf h 5 rfl, cellOf h 6 rfl, frozOf h 0, frozOf h 1, frozOf h 2, frozOf h 3, frozOf h 4, frozOf h 5, frozOf h 6, ltOf h⟩
theorem tl_at1 (w : World) (a b : Obj) : ((w.alloc a).alloc b).heap[w.heap.size + 1]? = some b := by have := heap_alloc_new (w.alloc a) b; simpa using this
theorem tl_at2 (w : World) (a b c : Obj) : (((w.alloc a).alloc b).alloc c).heap[w.heap.size + 2]? = some c := by have := heap_alloc_new ((w.alloc a).alloc b) c; simpa using this
/-- What is not too great: no text is longer than m. -/
structure smTl (m : Int) (R : ByteArray) (s : List Ap) : Prop where
  nm : (R.size : Int) ≤ m
  n : (s.length : Int) ≤ m
  ap : ∀ j (h : j < s.length), smAp m s[j]
theorem smTl_mono {m m' : Int} {R : ByteArray} {s : List Ap} (h : m ≤ m') (hx : smTl m R s) : smTl m' R s := ⟨by have := hx.nm; omega, by have := hx.n; omega, fun j hj => smAp_mono h (hx.ap j hj)⟩
theorem tl_len {R : ByteArray} {s : List Ap} (h : smTl 1048576 R s) : s.length ≤ 1048576 := by have := h.n; omega
structure okTl (R : ByteArray) (s : List Ap) : Prop where
  nm : R.size ≤ maxLen
  n : s.length ≤ maxLen
  ap : ∀ j (h : j < s.length), okAp s[j]

set_option maxHeartbeats 1600000 in
theorem szTool_gen (A : Int) (R : ByteArray) (S U L : Int) (Q : Bool) (a : Option Addr) (n c : Nat) (l : Int) (s : List Ap) (w : World) (h0 : 0 ≤ l) (h1 : l ≤ 1048576) (hc : okTl R s) (h : RG 2 apC w (.slice a n c) s) :
    Calls Try.prog 5 #[.agg #[.int .i64 A, .string R, .int .i64 S, .int .i64 U, .int .i64 L, .bool Q, .slice a n c], .int .i64 l] w fun e w' => ∃ q, e = .returned (.int .i64 q) ∧ (q < 0 ∨ (0 ≤ q ∧ q ≤ l ∧ smTl l R s)) ∧ Below w.heap.size w w' := by
  have hnm : R.size ≤ maxLen := hc.nm
  have hpn : n ≤ maxLen := by rw [h.len]; exact hc.n
  have H : Hid (RG 2 apC w (.slice a n c) s ∧ okTl R s ∧ n ≤ maxLen) := ⟨h, hc, hpn⟩
  unfold maxLen at hnm
  clear h hc hpn
  have hw : IntKind.i64.wrap (l - (R.size : Int)) = l - (R.size : Int) := by rw [IntKind.wrap_i64]; omega
  by_cases hn : l - (R.size : Int) < 0
  · go_enter Try.func5, Try.ntmps5
    go_wp2
    go_returns
    exact ⟨-1, rfl, Or.inl (by omega), by (repeat' (first | (with_reducible exact Below.refl _ _) | (with_reducible assumption) | (with_reducible refine Below.setCell ?_ ?_ _) | (with_reducible refine Below.alloc ?_ ?_ _) | (with_reducible refine below_drewN ?_ _) | (with_reducible refine Below.drew ?_) | (with_reducible exact Nat.le_refl _) | omega | (simp; done) | (simp; omega)))⟩
  have HN : Hid ((R.size : Int) ≤ l) := by unfold Hid; omega
  obtain ⟨l1, hl1⟩ : ∃ l1, l1 = l - (R.size : Int) := ⟨_, rfl⟩
  have hl0 : 0 ≤ l1 := by omega
  have hll : l1 ≤ l := by omega
  rw [← hl1] at hw hn
  have hw2 : IntKind.i64.wrap (l - (R.size : Int)) = l1 := by rw [← hl1]; exact hw
  have hw3 : l - (R.size : Int) = l1 := hl1.symm
  clear hl1 hw
  go_enter Try.func5, Try.ntmps5
  go_wp2_with (fail)
  try simp only [hw2, hw3]
  refine (szApprovalS_gen a n c l1 s _ hl0 (by omega) H.out.2.2 (H.out.1.below (by (repeat' (first | (with_reducible exact Below.refl _ _) | (with_reducible assumption) | (with_reducible refine Below.setCell ?_ ?_ _) | (with_reducible refine Below.alloc ?_ ?_ _) | (with_reducible refine below_drewN ?_ _) | (with_reducible refine Below.drew ?_) | (with_reducible exact Nat.le_refl _) | omega | (simp; done) | (simp; omega))))) H.out.2.1.ap).mono ?_
  rintro e w1 ⟨q1, rfl, hq1, hb1⟩
  have HB1 : Hid (Below w.heap.size w w1) := (show Below w.heap.size w _ from by (repeat' (first | (with_reducible exact Below.refl _ _) | (with_reducible assumption) | (with_reducible refine Below.setCell ?_ ?_ _) | (with_reducible refine Below.alloc ?_ ?_ _) | (with_reducible refine below_drewN ?_ _) | (with_reducible refine Below.drew ?_) | (with_reducible exact Nat.le_refl _) | omega | (simp; done) | (simp; omega)))).trans (hb1.mono (by simp))
  clear hb1
  rcases hq1 with hneg | ⟨h3, h4, h5, h5'⟩
  · go_wp2
    go_returns
    exact ⟨-1, rfl, Or.inl (by omega), HB1.out⟩
  have h6 : ¬ q1 < 0 := by omega
  have HS : Hid (smTl l R s) := ⟨HN.out, by rw [← H.out.1.len]; omega, fun j hj => smAp_mono (by omega) (h5' j hj)⟩
  clear h5'
  go_wp2
  go_returns
  exact ⟨q1, rfl, Or.inr ⟨h3, by omega, HS.out⟩, HB1.out⟩

set_option maxHeartbeats 3200000 in
theorem toTool_any (A : Int) (R : ByteArray) (S U L : Int) (Q : Bool) {w : World} {v : Value} {s : List Ap} (hn : s.length ≤ 1048576) (h : RG 2 apC w v s) :
    Calls Try.prog 8 #[.agg #[.int .i64 A, .string R, .int .i64 S, .int .i64 U, .int .i64 L, .bool Q, v]] w fun e w' => ∃ g, e = .returned (.agg #[.int .i64 A, .string R, .int .i64 S, .int .i64 U, .int .i64 L, .bool Q, .slice (some ⟨g, 0, none⟩) s.length s.length]) ∧ OG 72 2 apC w' w.heap.size (.slice (some ⟨g, 0, none⟩) s.length s.length) s ∧ Below w.heap.size w w' := by
  obtain ⟨a, c, rfl⟩ := h.form
  obtain ⟨n, hnn⟩ : ∃ n, n = s.length := ⟨_, rfl⟩
  rw [← hnn] at h ⊢
  have H : Hid (RG 2 apC w (.slice a n c) s ∧ s.length ≤ 1048576 ∧ n = s.length) := ⟨h, hn, hnn⟩
  clear h hn hnn
  obtain ⟨W0, hW0⟩ : ∃ W, W = ((w.alloc (.cells #[.int .i64 A, .string R, .int .i64 S, .int .i64 U, .int .i64 L, .bool Q, .slice a n c] 24)).alloc (.cells #[.int .i64 0, .string ⟨#[]⟩, .int .i64 0, .int .i64 0, .int .i64 0, .bool false, .slice none 0 0] 31)).alloc (.cells #[.int .i64 A, .string R, .int .i64 S, .int .i64 U, .int .i64 L, .bool Q, .slice none 0 0] 31) := ⟨_, rfl⟩
  have HW0 : Hid (Below w.heap.size w W0 ∧ W0.heap[w.heap.size + 1]? = some (.cells #[.int .i64 0, .string ⟨#[]⟩, .int .i64 0, .int .i64 0, .int .i64 0, .bool false, .slice none 0 0] 31) ∧ W0.heap[w.heap.size + 2]? = some (.cells #[.int .i64 A, .string R, .int .i64 S, .int .i64 U, .int .i64 L, .bool Q, .slice none 0 0] 31) ∧ W0.heap.size = w.heap.size + 3) := by
    rw [hW0]
    exact ⟨by (repeat' (first | (with_reducible exact Below.refl _ _) | (with_reducible assumption) | (with_reducible refine Below.setCell ?_ ?_ _) | (with_reducible refine Below.alloc ?_ ?_ _) | (with_reducible refine below_drewN ?_ _) | (with_reducible refine Below.drew ?_) | (with_reducible exact Nat.le_refl _) | omega | (simp; done) | (simp; omega))), (Below.heap_alloc _ _ _ (by simp)).trans (tl_at1 w _ _), tl_at2 w _ _ _, by simp⟩
  go_enter Try.func8, Try.ntmps8
  go_wp2_with (fail)
  rw [← hW0]
  clear hW0
  refine (toApprovalS_any H.out.2.1 (H.out.1.below HW0.out.1)).mono ?_
  rintro e w1 ⟨g1, rfl, hs1, hb1⟩
  rw [← H.out.2.2] at hs1 ⊢
  have k1 := (hb1.block _ (ltOf HW0.out.2.1)).trans HW0.out.2.1
  have k2 := (hb1.block _ (ltOf HW0.out.2.2.1)).trans HW0.out.2.2.1
  have HS : Hid (OG 72 2 apC w1 (w.heap.size + 3) (.slice (some ⟨g1, 0, none⟩) n n) s ∧ Below w.heap.size w w1) := ⟨by rw [← HW0.out.2.2.2]; exact hs1, HW0.out.1.trans (hb1.mono HW0.out.1.size)⟩
  clear hs1 hb1 HW0
  obtain ⟨p0, p1, p2, p3, p4, p5, p6, pf0, pf1, pf2, pf3, pf4, pf5, pf6, pl⟩ := tl_seven k1
  obtain ⟨q0, q1, q2, q3, q4, q5, q6, qf0, qf1, qf2, qf3, qf4, qf5, qf6, ql⟩ := tl_seven k2
  clear k1 k2
  go_wp2
  try simp only [Exit.inBlock, Exit.then]
  refine bodyPost_ret (by simp [results, Try.results8, go_sem, p0, p1, p2, p3, p4, p5, p6, pl]; try rfl) rfl ⟨g1, rfl, ?_, ?_⟩
  · refine OG.low (B := w.heap.size + 3) (ownsRow_keep HS.out.1 fun q hq => ?_) (by omega)
    have h9 := (OG.lt HS.out.1 q hq).1
    rw [heap_setCell_other _ _ _ _ (by simp; omega), heap_setCell_other _ _ _ _ (by simp; omega), heap_setCell_other _ _ _ _ (by simp; omega), heap_setCell_other _ _ _ _ (by simp; omega), heap_setCell_other _ _ _ _ (by simp; omega), heap_setCell_other _ _ _ _ (by simp; omega), heap_setCell_other _ _ _ _ (by simp; omega), heap_setCell_other _ _ _ _ (by simp; omega)]
  · have hb := HS.out.2
    (repeat' (first | (with_reducible exact Below.refl _ _) | (with_reducible assumption) | (with_reducible refine Below.setCell ?_ ?_ _) | (with_reducible refine Below.alloc ?_ ?_ _) | (with_reducible refine below_drewN ?_ _) | (with_reducible refine Below.drew ?_) | (with_reducible exact Nat.le_refl _) | omega | (simp; done) | (simp; omega)))

set_option maxHeartbeats 1600000 in
theorem eqTool_same (A : Int) (R : ByteArray) (S U L : Int) (Q : Bool) {w : World} {va vb : Value} {s : List Ap} (hn : s.length ≤ 1099511627776) (ha : RG 2 apC w va s) (hb : RG 2 apC w vb s) :
    Calls Try.prog 12 #[.agg #[.int .i64 A, .string R, .int .i64 S, .int .i64 U, .int .i64 L, .bool Q, va], .agg #[.int .i64 A, .string R, .int .i64 S, .int .i64 U, .int .i64 L, .bool Q, vb]] w fun e w' => e = .returned (.bool true) ∧ Below w.heap.size w w' := by
  obtain ⟨a1, c1', rfl⟩ := ha.form
  obtain ⟨a2, c2', rfl⟩ := hb.form
  obtain ⟨n, hnn⟩ : ∃ n, n = s.length := ⟨_, rfl⟩
  rw [← hnn] at ha hb ⊢
  have H : Hid (RG 2 apC w (.slice a1 n c1') s ∧ RG 2 apC w (.slice a2 n c2') s ∧ s.length ≤ 1099511627776) := ⟨ha, hb, hn⟩
  clear ha hb hn hnn
  go_enter Try.func12, Try.ntmps12
  go_wp2_with (fail)
  refine (eqApprovalS_same H.out.2.2 (H.out.1.below (by (repeat' (first | (with_reducible exact Below.refl _ _) | (with_reducible assumption) | (with_reducible refine Below.setCell ?_ ?_ _) | (with_reducible refine Below.alloc ?_ ?_ _) | (with_reducible refine below_drewN ?_ _) | (with_reducible refine Below.drew ?_) | (with_reducible exact Nat.le_refl _) | omega | (simp; done) | (simp; omega))))) (H.out.2.1.below (by (repeat' (first | (with_reducible exact Below.refl _ _) | (with_reducible assumption) | (with_reducible refine Below.setCell ?_ ?_ _) | (with_reducible refine Below.alloc ?_ ?_ _) | (with_reducible refine below_drewN ?_ _) | (with_reducible refine Below.drew ?_) | (with_reducible exact Nat.le_refl _) | omega | (simp; done) | (simp; omega)))))).mono ?_
  rintro e w1 ⟨rfl, hb1⟩
  have HB1 : Hid (Below w.heap.size w w1) := (show Below w.heap.size w _ from by (repeat' (first | (with_reducible exact Below.refl _ _) | (with_reducible assumption) | (with_reducible refine Below.setCell ?_ ?_ _) | (with_reducible refine Below.alloc ?_ ?_ _) | (with_reducible refine below_drewN ?_ _) | (with_reducible refine Below.drew ?_) | (with_reducible exact Nat.le_refl _) | omega | (simp; done) | (simp; omega)))).trans (hb1.mono (by simp; omega))
  clear hb1
  go_wp2
  go_returns
  exact ⟨rfl, HB1.out⟩

theorem list2t {α : Type} {l : List α} (h : l.length = 2) : ∃ c0 c1, l = [c0, c1] := by
  match l, h with
  | [c0, c1], _ => exact ⟨c0, c1, rfl⟩
theorem list7t {α : Type} {l : List α} (h : l.length = 7) : ∃ c0 c1 c2 c3 c4 c5 c6, l = [c0, c1, c2, c3, c4, c5, c6] := by
  match l, h with
  | [c0, c1, c2, c3, c4, c5, c6], _ => exact ⟨c0, c1, c2, c3, c4, c5, c6, rfl⟩
theorem ap_cells {H : Type} {enc : TypeId × Value → H} {W : World} {fuel : Nat} {cs : List Value} {x : DataW H × List MemPlace} (h : DataW.trod enc Try.prog W 0 (fun _ => true) true fuel 78 cs = some x) : ∃ a : Ap, cs = apC a ∧ okAp a := by
  obtain ⟨n, hl, hf⟩ := trod_fields Try.underlying78 (by kernel_rfl) (by kernel_rfl) h
  obtain ⟨c0, c1, rfl⟩ := list2t hl
  obtain ⟨_, y0, e0, t0⟩ := hf 0 _ rfl
  obtain ⟨_, y1, e1, t1⟩ := hf 1 _ rfl
  obtain ⟨s, k0, _, hs⟩ := DataW.trod_string Try.underlying9 t0
  obtain ⟨n1, k1, _, _⟩ := DataW.trod_int Try.underlying2 t1
  simp at e0 e1 k0 k1
  subst e0 e1
  subst k0 k1
  exact ⟨⟨s, n1⟩, rfl, hs⟩
set_option maxRecDepth 100000 in
theorem aps_cells {H : Type} {enc : TypeId × Value → H} {W : World} {fuel : Nat} {cs : List Value} {x : DataW H × List MemPlace} (h : DataW.trod enc Try.prog W 0 (fun _ => true) true fuel 22 cs = some x) :
    ∃ (a : Option Addr) (n c : Nat) (s : List Ap), cs = [.slice a n c] ∧ RG 2 apC W (.slice a n c) s ∧ s.length ≤ maxLen ∧ ∀ j (h : j < s.length), okAp s[j] := by
  have : Nonempty Ap := ⟨⟨ByteArray.empty, 0⟩⟩
  obtain ⟨a, n, c, s, hcs, h1, h2, h3⟩ := rg_of_trod (Q := okAp) Try.underlying22 (show Try.prog.cellsOf 78 = 2 by kernel_rfl) (by omega) apC_len (fun _ _ _ h => ap_cells h) h
  exact ⟨a, n, c, s, hcs, h1, h2, h3⟩
set_option maxRecDepth 100000 in
/-- A tool that came in. -/
theorem tool_open {H : Type} {enc : TypeId × Value → H} {W : World} {base : Nat} {v : Value} {d : DataW H} {p : List MemPlace}
    (hv : Value.okWide Try.prog W .any base 24 v) (h : DataW.Trod enc Try.prog W 0 (fun _ => true) true 24 v d p) :
    ∃ (A : Int) (R : ByteArray) (S U L : Int) (Q : Bool) (a : Option Addr) (n c : Nat) (s : List Ap), v = .agg #[.int .i64 A, .string R, .int .i64 S, .int .i64 U, .int .i64 L, .bool Q, .slice a n c] ∧ RG 2 apC W (.slice a n c) s ∧ okTl R s := by
  obtain ⟨l, n, rfl, hl, hf⟩ := agg_open Try.underlying24 (by kernel_rfl) (by kernel_rfl) hv h
  obtain ⟨c0, c1, c2, c3, c4, c5, c6, rfl⟩ := list7t hl
  obtain ⟨_, y0, e0, t0⟩ := hf 0 _ rfl
  obtain ⟨_, y1, e1, t1⟩ := hf 1 _ rfl
  obtain ⟨_, y2, e2, t2⟩ := hf 2 _ rfl
  obtain ⟨_, y3, e3, t3⟩ := hf 3 _ rfl
  obtain ⟨_, y4, e4, t4⟩ := hf 4 _ rfl
  obtain ⟨_, y5, e5, t5⟩ := hf 5 _ rfl
  obtain ⟨_, y6, e6, t6⟩ := hf 6 _ rfl
  obtain ⟨n0, k0, _, _⟩ := DataW.trod_int Try.underlying2 t0
  obtain ⟨s1, k1, _, hs⟩ := DataW.trod_string Try.underlying9 t1
  obtain ⟨n2, k2, _, _⟩ := DataW.trod_int Try.underlying2 t2
  obtain ⟨n3, k3, _, _⟩ := DataW.trod_int Try.underlying2 t3
  obtain ⟨n4, k4, _, _⟩ := DataW.trod_int Try.underlying2 t4
  obtain ⟨b5, k5, _⟩ := DataW.trod_bool Try.underlying4 t5
  obtain ⟨a, m, c, s, k6, r1, r2, r3⟩ := aps_cells t6
  simp at e0 e1 e2 e3 e4 e5 e6 k0 k1 k2 k3 k4 k5 k6
  subst e0 e1 e2 e3 e4 e5 e6
  subst k0 k1 k2 k3 k4 k5 k6
  exact ⟨n0, s1, n2, n3, n4, b5, a, m, c, s, rfl, r1, hs, r2, r3⟩

end Go.Proofs.Ytkacfjbhkgdpdaa
