/- Proved here: the program's readers of grids: where a grid ends; what a kind of map is. -/
import Derived.Test.YthmddnachancfabWnM
import Derived.Test.YthmddnachancfabInsC
import Derived.Test.YthmddnachancfabGrB
import Derived.Test.YthmddnachancfabReg
import Derived.StillTail
namespace Go.Proofs.Ythmddnachancfab
open Go.RowKit
set_option linter.unusedVariables false
set_option linter.unusedSimpArgs false

theorem enter_fn {f : FuncId} {fn : Func} (hf : Try.prog.funcs[f]? = some fn) (hname : (fn.name == "runtime.NumGoroutine") = false) (hb : fn.body.isSome = true) (args : Array Value) (w : World) : (callFunc f args).run Try.prog w = .ok (.enter f args) w := by
  obtain ⟨c, hc⟩ := Option.isSome_iff_exists.1 hb
  have h1 : fn.name ≠ "runtime.NumGoroutine" := by simpa using hname
  simp [callFunc, hf, h1, hc]

/-- A kind of map: what its function says of each place. -/
structure Kd (F : Nat) (r : Value) (n W : Nat) (P : Nat → Nat → Bool) (w : World) : Prop where
  enter : ∀ (args : Array Value) (V : World), (callFunc F args).run Try.prog V = .ok (.enter F args) V
  calls : ∀ (V : World) (y x : Nat), Below w.heap.size w V → y < n → x < W → Calls Try.prog F #[r, .agg #[.int .i64 x, .int .i64 y]] V fun e w' => e = .returned (.bool (P y x)) ∧ Below V.heap.size V w'
theorem Kd.below {F : Nat} {r : Value} {n W : Nat} {P : Nat → Nat → Bool} {w w' : World} (h : Kd F r n W P w) (hb : Below w.heap.size w w') : Kd F r n W P w' :=
  ⟨h.enter, fun V y x hV hy hx => h.calls V y x (hb.trans (hV.mono hb.size)) hy hx⟩

theorem four_of {w : World} {k : Nat} {a b c d : Value} {T : TypeId} (h : w.heap[k]? = some (.cells #[a, b, c, d] T)) :
    w.cell? ⟨k, 0, none⟩ = some a ∧ w.cell? ⟨k, 1, none⟩ = some b ∧ w.cell? ⟨k, 2, none⟩ = some c ∧ w.cell? ⟨k, 3, none⟩ = some d ∧ k < w.heap.size :=
  ⟨cellOf h 0 rfl, cellOf h 1 rfl, cellOf h 2 rfl, cellOf h 3 rfl, ltOf h⟩
theorem three_of {w : World} {k : Nat} {a b c : Value} {T : TypeId} (h : w.heap[k]? = some (.cells #[a, b, c] T)) :
    w.cell? ⟨k, 0, none⟩ = some a ∧ w.cell? ⟨k, 1, none⟩ = some b ∧ w.cell? ⟨k, 2, none⟩ = some c ∧ w.frozen? ⟨k, 0, none⟩ = false ∧ w.frozen? ⟨k, 1, none⟩ = false ∧ w.frozen? ⟨k, 2, none⟩ = false ∧ k < w.heap.size :=
  ⟨cellOf h 0 rfl, cellOf h 1 rfl, cellOf h 2 rfl, frozOf h 0, frozOf h 1, frozOf h 2, ltOf h⟩
theorem sixS {w : World} {k : Nat} {a b c d e f : Value} {T : TypeId} (h : w.heap[k]? = some (.cells #[a, b, c, d, e, f] T)) :
    w.cell? ⟨k, 0, none⟩ = some a ∧ w.cell? ⟨k, 1, none⟩ = some b ∧ w.cell? ⟨k, 2, none⟩ = some c ∧ w.cell? ⟨k, 3, none⟩ = some d ∧ w.cell? ⟨k, 4, none⟩ = some e ∧ w.cell? ⟨k, 5, none⟩ = some f ∧ (∀ j, w.frozen? ⟨k, j, none⟩ = false) ∧ k < w.heap.size :=
  ⟨cellOf h 0 rfl, cellOf h 1 rfl, cellOf h 2 rfl, cellOf h 3 rfl, cellOf h 4 rfl, cellOf h 5 rfl, fun j => frozOf h j, ltOf h⟩
theorem there_n {w : World} {k m : Nat} {cs : Array Value} {T : TypeId} (h : w.heap[k]? = some (.cells cs T)) (hm : m = cs.size) : w.there k 0 m := by
  intro j hj
  have hj2 : j < cs.size := by rw [← hm]; exact hj
  simp [World.cell?, World.frozen?, h, hj2]
theorem st_same2 {w : World} {k : Nat} {a b c d : Value} {T : TypeId} (h : w.heap[k]? = some (.cells #[a, b] T)) : (w.setCells k 0 [c, d]).heap[k]? = some (.cells #[c, d] T) := by
  simp only [World.setCells]
  have h1 := heap_setCell_same w k 0 _ _ c h
  have h2 := heap_setCell_same _ k 1 _ _ d h1
  simpa using h2
theorem st_same3 {w : World} {k : Nat} {a b c a' b' c' : Value} {T : TypeId} (h : w.heap[k]? = some (.cells #[a, b, c] T)) : (w.setCells k 0 [a', b', c']).heap[k]? = some (.cells #[a', b', c'] T) := by
  simp only [World.setCells]
  have h1 := heap_setCell_same w k 0 _ _ a' h
  have h2 := heap_setCell_same _ k 1 _ _ b' h1
  have h3 := heap_setCell_same _ k 2 _ _ c' h2
  simpa using h3
theorem st_below {B k : Nat} {w : World} (hk : B ≤ k) : ∀ (vs : List Value) (o : Nat) {V : World}, Below B w V → Below B w (V.setCells k o vs)
  | [], _, _, h => h
  | v :: r, o, _, h => st_below hk r (o + 1) (h.setCell hk v)
theorem al2 {w V : World} {o1 o2 : Obj} (h : V = (w.alloc o1).alloc o2) : V.heap[w.heap.size]? = some o1 ∧ V.heap[w.heap.size + 1]? = some o2 ∧ Below w.heap.size w V ∧ V.heap.size = w.heap.size + 2 := by
  subst h
  refine ⟨(Below.heap_alloc _ _ _ (by simp)).trans (heap_alloc_new w _), ?_, by (repeat' (first | (with_reducible exact Below.refl _ _) | (with_reducible assumption) | (with_reducible refine Below.setCell ?_ ?_ _) | (with_reducible refine Below.alloc ?_ ?_ _) | (with_reducible refine below_drewN ?_ _) | (with_reducible refine Below.drew ?_) | (with_reducible exact Nat.le_refl _) | omega | (simp; done) | (simp; omega))), by simp⟩
  have := heap_alloc_new (w.alloc o1) o2
  simpa using this

theorem al3 {w V : World} {o1 o2 o3 : Obj} (h : V = ((w.alloc o1).alloc o2).alloc o3) : V.heap[w.heap.size]? = some o1 ∧ V.heap[w.heap.size + 1]? = some o2 ∧ V.heap[w.heap.size + 1 + 1]? = some o3 ∧ Below w.heap.size w V ∧ V.heap.size = w.heap.size + 3 := by
  obtain ⟨W, hW⟩ : ∃ W, W = (w.alloc o1).alloc o2 := ⟨_, rfl⟩
  rw [← hW] at h
  obtain ⟨a1, a2, a3, a4⟩ := al2 hW
  have b3 : Below W.heap.size W V := by rw [h]; (repeat' (first | (with_reducible exact Below.refl _ _) | (with_reducible assumption) | (with_reducible refine Below.setCell ?_ ?_ _) | (with_reducible refine Below.alloc ?_ ?_ _) | (with_reducible refine below_drewN ?_ _) | (with_reducible refine Below.drew ?_) | (with_reducible exact Nat.le_refl _) | omega | (simp; done) | (simp; omega)))
  have b1 : V.heap[W.heap.size]? = some o3 := by rw [h]; exact heap_alloc_new W o3
  rw [a4] at b1
  exact ⟨(b3.block _ (by omega)).trans a1, (b3.block _ (by omega)).trans a2, b1, a3.trans (b3.mono a3.size), by rw [h]; simp; omega⟩

set_option maxRecDepth 10000 in
set_option maxHeartbeats 3200000 in
theorem impl_end {w : World} {a oa : Option Addr} {n c on oc : Nat} {lo hi : Int} {ls : List (List Int)} (hn : 0 < n) (hm : n ≤ 1048576) (h : RdR w (.slice a n c) ls) :
    Calls Try.prog 30 #[.agg #[.slice a n c, .slice oa on oc, .int .i64 lo, .int .i64 hi]] w fun e w' => e = .returned (.agg #[.int .i64 (ls.getD 0 []).length, .int .i64 n]) ∧ Below w.heap.size w w' := by
  obtain ⟨g, o, ua, un, uc, rfl, hg, c0, hun, hrd⟩ := h.at hn
  rw [← hun]
  clear hun hrd h
  have b1 : (0 : Int) < (n : Int) := by omega
  simp only [Nat.add_zero] at c0
  go_enter Try.func30, Try.ntmps30
  go_wp2_with (fail)
  obtain ⟨V, hV⟩ : ∃ V, V = (w.alloc (.cells #[.slice (some ⟨g, o, none⟩) n c, .slice oa on oc, .int .i64 lo, .int .i64 hi] 62)).alloc (.cells #[.int .i64 0, .int .i64 0] 60) := ⟨_, rfl⟩
  rw [← hV]
  obtain ⟨k0, k1, hb, hs⟩ := al2 hV
  have d0 := (hb.cell (p := ⟨g, o, none⟩) hg).trans c0
  have e0 := cellOf k0 0 rfl
  have l0 := ltOf k0
  obtain ⟨q0, q1, qf0, qf1, ql⟩ := two_of k1
  have hg' := Nat.lt_of_lt_of_le hg hb.size
  have HB : Hid (Below w.heap.size w V) := hb
  clear hV k0 k1 hb hs c0 hg
  refine wp_region_still_tail 9 (by kernel_rfl) (by kernel_rfl) ?_
  have hdw : ({ V with drawn := V.drawn + 1 } : World) = V.drew := rfl
  rw [hdw]
  clear hdw
  simp only [List.take_succ_cons, List.take_zero, List.drop_succ_cons, List.drop_zero]
  iterate 9 still_step
  refine wpStill_nil ?_
  go_wp2
  try simp only [Exit.inBlock, Exit.then]
  refine bodyPost_ret (by simp [results, Try.results30, go_sem, q0, q1, ql]; try rfl) rfl ⟨rfl, ?_⟩
  have hb := HB.out
  (repeat' (first | (with_reducible exact Below.refl _ _) | (with_reducible assumption) | (with_reducible refine Below.setCell ?_ ?_ _) | (with_reducible refine Below.alloc ?_ ?_ _) | (with_reducible refine below_drewN ?_ _) | (with_reducible refine Below.drew ?_) | (with_reducible exact Nat.le_refl _) | omega | (simp; done) | (simp; omega)))

end Go.Proofs.Ythmddnachancfab
