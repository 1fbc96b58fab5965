/- Proved here: add of the program: a copy of a lot behind the others of an open book. -/
import Derived.Test.YtcfjanignfbidaaQoM
import Derived.Test.YtcfjanignfbidaaOpA
import Derived.StillTailTactics
import Derived.Maps.AppendAt
namespace Go.Proofs.Ytcfjanignfbidaa
open Go.RowKit Go.Maps
set_option linter.unusedVariables false
set_option linter.unusedSimpArgs false

theorem six_of {w : World} {k : Nat} {a b c d e f : Value} {T : TypeId} (h : w.heap[k]? = some (.cells #[a, b, c, d, e, f] T)) :
    w.cell? ⟨k, 0, none⟩ = some a ∧ w.cell? ⟨k, 1, none⟩ = some b ∧ w.cell? ⟨k, 2, none⟩ = some c ∧ w.cell? ⟨k, 3, none⟩ = some d ∧ w.cell? ⟨k, 4, none⟩ = some e ∧ w.cell? ⟨k, 5, none⟩ = some f ∧ k < w.heap.size :=
  ⟨cellOf h 0 rfl, cellOf h 1 rfl, cellOf h 2 rfl, cellOf h 3 rfl, cellOf h 4 rfl, cellOf h 5 rfl, ltOf h⟩
theorem wm_ty : Try.prog.underlying 69 = some (.map 2 24) := Try.underlying69
theorem drew_heap (w : World) : w.drew.heap = w.heap := rfl
theorem ik_lawQ : Keyed Try.prog 2 := kI_law
theorem is_sv {w : World} {B : Nat} {v : Value} {s : List Int} (h : IS w B v s) : ∃ sv : Sv, v = sv.v := by
  obtain ⟨a, c, e⟩ := h.form
  exact ⟨(a, s.length, c), e⟩

/-- A list that is read lies in no map. -/
theorem rd_off {w w' : World} {v : Value} {s : List Int} {m : Nat} {es : Array MapEntry} {cl : Nat} (h : RdI w v s) (hm : w.heap[m]? = some (.map es cl)) (hk : ∀ q, q < w.heap.size → q ≠ m → w'.heap[q]? = w.heap[q]?) (hs : w.heap.size ≤ w'.heap.size) : RdI w' v s := by
  obtain ⟨a, c, rfl, h⟩ := h
  refine ⟨a, c, rfl, fun hn => ?_⟩
  obtain ⟨g, o, rfl, hg, hj⟩ := h hn
  have hgm : g ≠ m := by
    rintro rfl
    have hp : 0 < s.length := List.length_pos_iff.2 hn
    have h1 := hj 0 hp 0 (by omega)
    simp [World.cell?, hm, inC] at h1
  refine ⟨g, o, rfl, Nat.lt_of_lt_of_le hg hs, fun j hl i hi => ?_⟩
  have h1 := hj j hl i hi
  simp only [World.cell?] at h1 ⊢
  rw [hk g hg hgm]; exact h1
theorem IM.obj {E : TypeId} {w : World} {b n : Nat} {f : Int → Option Int} (h : IM E w b n f) : ∃ es cl, w.heap[b]? = some (.map es cl) := by
  obtain ⟨D, ⟨es, cl, h1, _⟩, _⟩ := h.own; exact ⟨es, cl, h1⟩
theorem TM.obj {k : TypeId} {w : World} {b n : Nat} {f : Lit → Option Sv} (h : TM w k b n f) : ∃ es cl, w.heap[b]? = some (.map es cl) := by
  obtain ⟨D, ⟨es, cl, h1, _⟩, _⟩ := h.own; exact ⟨es, cl, h1⟩

set_option maxRecDepth 20000 in
set_option maxHeartbeats 6400000 in
theorem impl_add {w : World} {B K bp bm : Nat} {vw vl vs : Value} {f : Lit → Option Sv} {b : Bk} {rs : List Lr} {x : Lr} {l : Lo}
    (h : OB w B K bp bm vw vl vs f b rs) (hx : Lr1 w x l) (hnc : NC x.wv ∧ NC x.dv) (hsm : l.ws.length ≤ 1048576 ∧ l.dn.length ≤ 1048576) (hid : 1 ≤ l.id ∧ l.id ≤ 1000000) (hne : ∀ i (hi : i < b.ls.length), b.ls[i].id ≠ l.id) (hln : b.ls.length ≤ 30) (m0 : Nat) (hm0 : m0 ≤ 500) (hT0 : TM w 2 bm m0 f) :
    Calls Try.prog 46 #[.pointer (some ⟨K, 0, none⟩), .agg #[.int .i64 x.id, .int .i64 x.pa, .slice x.wa x.wn x.wc, .bool x.hd, .slice x.da x.dn x.dc]] w fun e w' => (∃ v, e = .returned v) ∧ ∃ vl' f' rs', OB w' B K bp bm vw vl' vs f' { b with ls := b.ls ++ [l] } rs' ∧ TM w' 2 bm (m0 + 1) f' ∧ Below B w w' := by
  obtain ⟨la, lc, e2⟩ := (OG.rg lrC_len h.pb.row).form
  obtain ⟨ln, hln9⟩ : ∃ n, n = b.ls.length := ⟨_, rfl⟩
  rw [h.pb.len, ← hln9] at e2
  subst e2
  have H : Hid (OB w B K bp bm vw (.slice la ln lc) vs f b rs ∧ Lr1 w x l ∧ (NC x.wv ∧ NC x.dv) ∧ (1 ≤ l.id ∧ l.id ≤ 1000000) ∧ (∀ i (hi : i < b.ls.length), b.ls[i].id ≠ l.id) ∧ ln = b.ls.length ∧ TM w 2 bm m0 f) := ⟨h, hx, hnc, hid, hne, hln9, hT0⟩
  have hl30 : ln ≤ 30 := by omega
  have HS : Hid (l.ws.length ≤ 1048576 ∧ l.dn.length ≤ 1048576) := hsm
  obtain ⟨hK1, hK2, hK3, hK4, hK5⟩ := h.kb
  have HK : Hid (K ≠ bp ∧ K ≠ bm ∧ K < w.heap.size ∧ bp < w.heap.size ∧ bm < w.heap.size ∧ bp ≠ bm ∧ B ≤ K ∧ B ≤ bp ∧ B ≤ bm ∧ B ≤ w.heap.size) := ⟨hK1, hK2, hK3, hK4, hK5, h.pm, h.lo.1, h.lo.2.1, h.lo.2.2.1, h.lo.2.2.2⟩
  have hxw : (Lit.int .i64 x.id).wf = true := wf64 (by rw [hx.id]; omega)
  have hkw : (Lit.int .i64 (ln : Int)).wf = true := wf64 (by omega)
  obtain ⟨X, hX⟩ : ∃ X, X = w.heap.size := ⟨_, rfl⟩
  obtain ⟨W0, hW0⟩ : ∃ W, W = (w.alloc (.cells #[.int .i64 x.id, .int .i64 x.pa, .slice x.wa x.wn x.wc, .bool x.hd, .slice x.da x.dn x.dc] 61)) := ⟨_, rfl⟩
  have HW0 : Hid (Below w.heap.size w W0 ∧ W0.heap[X]? = some (.cells #[.int .i64 x.id, .int .i64 x.pa, .slice x.wa x.wn x.wc, .bool x.hd, .slice x.da x.dn x.dc] 61) ∧ W0.heap[K]? = some (.cells #[.int .i64 b.st, vw, .slice la ln lc, vs, .map (some bp), .map (some bm)] 71) ∧ W0.heap.size = X + 1 ∧ X = w.heap.size) := by
    have hb : Below w.heap.size w W0 := by rw [hW0]; (repeat' (first | (with_reducible exact Below.refl _ _) | (with_reducible assumption) | (with_reducible refine Below.setCell ?_ ?_ _) | (with_reducible refine Below.alloc ?_ ?_ _) | (with_reducible refine below_drewN ?_ _) | (with_reducible refine Below.drew ?_) | (with_reducible exact Nat.le_refl _) | omega | (simp; done) | (simp; omega)))
    exact ⟨hb, by rw [hW0, hX]; exact heap_alloc_new _ _, (hb.block K hK3).trans h.bx, by rw [hW0, hX]; simp, hX⟩
  have hI0 : IM 3 W0.drew bp b.ls.length (plF b.ls b.ls.length) := (h.ip.below HW0.out.1).block rfl
  obtain ⟨w3, hu, hI3, hg3⟩ := hI0.put (T := 68) lp_ty in_ty (by omega) hxw hkw
  obtain ⟨q0, q1, q2, q3, q4, q5, ql⟩ := six_of HW0.out.2.2.1
  obtain ⟨p0, p1, p2, p3, p4, pl⟩ := five_atQ HW0.out.2.1
  have HI3 : Hid (IM 3 w3 bp (b.ls.length + 1) (fun q => if x.id = q then some (ln : Int) else plF b.ls b.ls.length q) ∧ W0.grownBy w3 (some bp)) := ⟨hI3, ⟨hg3.os, hg3.tape, hg3.output, hg3.size, hg3.block⟩⟩
  clear h hx hnc hid hne hln9 hI0 hI3 hg3 hK1 hK2 hK3 hK4 hK5 hsm hln hxw hkw hT0
  go_enter Try.func46, Try.ntmps46
  go_wp2
  rw [← hW0, ← hX]
  clear hW0 hX
  refine wp_region_still_tail 12 (by kernel_rfl) (by kernel_rfl) ?_
  have hdw : ({ W0 with drawn := W0.drawn + 1 } : World) = W0.drew := rfl
  rw [hdw]
  clear hdw
  simp only [List.take_succ_cons, List.take_zero, List.drop_succ_cons, List.drop_zero]
  iterate 12 still_step
  refine wpStill_nil ?_
  go_wp2
  clear hu q0 q1 q2 q3 q4 q5 ql p0 p1 p2 p3 p4 pl
  have hbl3 : ∀ q, q < W0.heap.size → q ≠ bp → w3.heap[q]? = W0.heap[q]? := fun q h1 h2 => HI3.out.2.block q h1 (fun e => h2 (by injection e))
  have HF3 : Hid (w3.heap[X]? = some (.cells #[.int .i64 x.id, .int .i64 x.pa, .slice x.wa x.wn x.wc, .bool x.hd, .slice x.da x.dn x.dc] 61) ∧ w3.heap[K]? = some (.cells #[.int .i64 b.st, vw, .slice la ln lc, vs, .map (some bp), .map (some bm)] 71) ∧ W0.heap.size ≤ w3.heap.size ∧ (∀ q, q < w.heap.size → q ≠ bp → w3.heap[q]? = w.heap[q]?) ∧ Below B w w3) := by
    have hk := HK.out
    have h0 := HW0.out
    refine ⟨(hbl3 X (ltOf h0.2.1) (by omega)).trans h0.2.1, (hbl3 K (ltOf h0.2.2.1) hk.1).trans h0.2.2.1, HI3.out.2.size, fun q h1 h2 => (hbl3 q (by omega) h2).trans (h0.1.block q h1), ?_⟩
    exact (h0.1.mono (by omega)).grown HI3.out.2 (by omega) (fun j hj => by injection hj with hj; omega)
  clear hbl3
  have HT3 : Hid (TM w3 2 bm m0 f) := H.out.2.2.2.2.2.2.block (HF3.out.2.2.2.1 bm HK.out.2.2.2.2.1 (fun e => HK.out.2.2.2.2.2.1 e.symm))
  have HX3 : Hid (RdI w3 (.slice x.wa x.wn x.wc) l.ws ∧ RdI w3 (.slice x.da x.dn x.dc) l.dn) := by
    obtain ⟨es, cl, ho⟩ := H.out.1.ip.obj
    exact ⟨rd_off H.out.2.1.ws ho HF3.out.2.2.2.1 (by have := HF3.out.2.2.1; have := HW0.out; omega), rd_off H.out.2.1.dn ho HF3.out.2.2.2.1 (by have := HF3.out.2.2.1; have := HW0.out; omega)⟩
  refine wp_region_holdsA (S := fun u => u.cell? ⟨K, 5, none⟩ = some (.map (some bm)) ∧ u.cell? ⟨X, 0, none⟩ = some (.int .i64 x.id) ∧ u.cell? ⟨X, 2, none⟩ = some (.slice x.wa x.wn x.wc)) (by kernel_rfl) ⟨cellOf HF3.out.2.1 5 rfl, cellOf HF3.out.1 0 rfl, cellOf HF3.out.1 2 rfl⟩ (fun hS => ?_)
  refine fl_takeA (i := 0) (d := 16) (v := .pointer (some ⟨K, 0, none⟩)) rfl rfl rfl (by kernel_rfl) (by kernel_rfl) (by kernel_rfl) hS ?_ ?_
  · intro w' hk; obtain ⟨hk0, hk1, hk2⟩ := hk; go_simp
  simp only [Act.put, List.setIfInBounds_toArray, List.set_cons_zero, List.set_cons_succ]
  refine fl_takeA (i := 1) (d := 17) (v := .pointer (some ⟨K, 0, none⟩)) rfl rfl rfl (by kernel_rfl) (by kernel_rfl) (by kernel_rfl) hS ?_ ?_
  · intro w' hk; obtain ⟨hk0, hk1, hk2⟩ := hk; go_simp
  simp only [Act.put, List.setIfInBounds_toArray, List.set_cons_zero, List.set_cons_succ]
  refine fl_takeA (i := 2) (d := 18) (v := .pointer (some ⟨K, 5, none⟩)) rfl rfl rfl (by kernel_rfl) (by kernel_rfl) (by kernel_rfl) hS ?_ ?_
  · intro w' hk; obtain ⟨hk0, hk1, hk2⟩ := hk; go_simp
  simp only [Act.put, List.setIfInBounds_toArray, List.set_cons_zero, List.set_cons_succ]
  refine fl_takeA (i := 3) (d := 19) (v := .map (some bm)) rfl rfl rfl (by kernel_rfl) (by kernel_rfl) (by kernel_rfl) hS ?_ ?_
  · intro w' hk; obtain ⟨hk0, hk1, hk2⟩ := hk; go_simp
  simp only [Act.put, List.setIfInBounds_toArray, List.set_cons_zero, List.set_cons_succ]
  refine fl_takeA (i := 4) (d := 20) (v := .pointer (some ⟨X, 0, none⟩)) rfl rfl rfl (by kernel_rfl) (by kernel_rfl) (by kernel_rfl) hS ?_ ?_
  · intro w' hk; obtain ⟨hk0, hk1, hk2⟩ := hk; go_simp
  simp only [Act.put, List.setIfInBounds_toArray, List.set_cons_zero, List.set_cons_succ]
  refine fl_takeA (i := 5) (d := 21) (v := .int .i64 x.id) rfl rfl rfl (by kernel_rfl) (by kernel_rfl) (by kernel_rfl) hS ?_ ?_
  · intro w' hk; obtain ⟨hk0, hk1, hk2⟩ := hk; go_simp
  simp only [Act.put, List.setIfInBounds_toArray, List.set_cons_zero, List.set_cons_succ]
  refine fl_takeA (i := 6) (d := 22) (v := .pointer (some ⟨X, 2, none⟩)) rfl rfl rfl (by kernel_rfl) (by kernel_rfl) (by kernel_rfl) hS ?_ ?_
  · intro w' hk; obtain ⟨hk0, hk1, hk2⟩ := hk; go_simp
  simp only [Act.put, List.setIfInBounds_toArray, List.set_cons_zero, List.set_cons_succ]
  refine fl_takeA (i := 7) (d := 23) (v := .slice x.wa x.wn x.wc) rfl rfl rfl (by kernel_rfl) (by kernel_rfl) (by kernel_rfl) hS ?_ ?_
  · intro w' hk; obtain ⟨hk0, hk1, hk2⟩ := hk; go_simp
  simp only [Act.put, List.setIfInBounds_toArray, List.set_cons_zero, List.set_cons_succ]
  have HX3d : Hid (RdI w3.drew (.slice x.wa x.wn x.wc) l.ws) := HX3.out.1.below (Below.refl _ _).drew
  refine wpAnyH_all (rs := [8]) (by kernel_rfl) (by simp) ?_
  intro i hi
  obtain rfl : i = 8 := by simpa using hi
  clear hi
  refine op_call (d := 24) rfl rfl rfl (by go_simp) ((cl_int (v := .slice x.wa x.wn x.wc) HS.out.1 H.out.2.2.1.1 HX3d.out).mono ?_)
  rintro e w4 ⟨v4, rfl, hv4, hb4⟩
  obtain ⟨s4, rfl⟩ := is_sv hv4
  have hb4' : Below w3.heap.size w3 w4 := (Below.refl _ _).drew.trans hb4
  have HF4 : Hid (w4.heap[X]? = some (.cells #[.int .i64 x.id, .int .i64 x.pa, .slice x.wa x.wn x.wc, .bool x.hd, .slice x.da x.dn x.dc] 61) ∧ w4.heap[K]? = some (.cells #[.int .i64 b.st, vw, .slice la ln lc, vs, .map (some bp), .map (some bm)] 71) ∧ TM w4 2 bm m0 f ∧ IS w4 w3.heap.size s4.v l.ws ∧ Below w3.heap.size w3 w4) :=
    ⟨(hb4'.block X (ltOf HF3.out.1)).trans HF3.out.1, (hb4'.block K (ltOf HF3.out.2.1)).trans HF3.out.2.1, HT3.out.below hb4', hv4, hb4'⟩
  have hxw : (Lit.int .i64 x.id).wf = true := wf64 (by rw [H.out.2.1.id]; have := H.out.2.2.2.1; omega)
  obtain ⟨w5, hu, hT5, hg5⟩ := HF4.out.2.2.1.put ik_lawQ wm_ty (by unfold maxLen; omega) (kI_key hxw) s4
  obtain ⟨va4, vn4, vc4⟩ := s4
  have HF5 : Hid (w5.heap[X]? = some (.cells #[.int .i64 x.id, .int .i64 x.pa, .slice x.wa x.wn x.wc, .bool x.hd, .slice x.da x.dn x.dc] 61) ∧ w5.heap[K]? = some (.cells #[.int .i64 b.st, vw, .slice la ln lc, vs, .map (some bp), .map (some bm)] 71) ∧ TM w5 2 bm (m0 + 1) (updF f (ikI x.id) (some (va4, vn4, vc4))) ∧ IS w5 w3.heap.size (.slice va4 vn4 vc4) l.ws ∧ w4.grownBy w5 (some bm)) := by
    have hk := HK.out
    have h0 := HW0.out
    have hbb : ∀ q, q < w4.heap.size → q ≠ bm → w5.heap[q]? = w4.heap[q]? := fun q h1 h2 => hg5.block q h1 (fun e => h2 (by injection e))
    refine ⟨(hbb X (ltOf HF4.out.1) (by omega)).trans HF4.out.1, (hbb K (ltOf HF4.out.2.1) hk.2.1).trans HF4.out.2.1, hT5, HF4.out.2.2.2.1.kept fun q hq => hbb q (IS.lt HF4.out.2.2.2.1 q hq).2 ?_, hg5⟩
    have h1 := (IS.lt HF4.out.2.2.2.1 q hq).1
    have h2 := HF3.out.2.2.1
    omega
  have hS5 : (fun u : World => u.cell? ⟨K, 5, none⟩ = some (.map (some bm)) ∧ u.cell? ⟨X, 0, none⟩ = some (.int .i64 x.id) ∧ u.cell? ⟨X, 2, none⟩ = some (.slice x.wa x.wn x.wc)) w5 := ⟨cellOf HF5.out.2.1 5 rfl, cellOf HF5.out.1 0 rfl, cellOf HF5.out.1 2 rfl⟩
  refine ⟨_, rfl, ⟨cellOf HF4.out.2.1 5 rfl, cellOf HF4.out.1 0 rfl, cellOf HF4.out.1 2 rfl⟩, ?_⟩
  simp only [Act.put, List.setIfInBounds_toArray, List.set_cons_zero, List.set_cons_succ]
  clear hv4 hb4 hb4' hT5 hg5 hxw HX3d hS
  refine wpAnyH_all (rs := [9]) (by kernel_rfl) (by simp) ?_
  intro i hi
  obtain rfl : i = 9 := by simpa using hi
  clear hi
  refine op_skipN (w' := w5) rfl rfl (by go_simp; try rfl) ?_
  refine ⟨hS5, wpAnyH_done (by kernel_rfl) (NoPanic.normal ?_) _⟩
  clear hu hS5
  have HX5 : Hid (RdI w5 (.slice x.da x.dn x.dc) l.dn) := by
    have h4 := HX3.out.2.below HF4.out.2.2.2.2
    obtain ⟨es, cl, ho⟩ := HF4.out.2.2.1.obj
    exact rd_off h4 ho (fun q h1 h2 => HF5.out.2.2.2.2.block q h1 (fun e => h2 (by injection e))) HF5.out.2.2.2.2.size
  obtain ⟨p0, p1, p2, p3, p4, pl⟩ := five_atQ HF5.out.1
  clear HX3
  go_wp2_with (fail)
  refine (cl_int (v := .slice x.da x.dn x.dc) HS.out.2 H.out.2.2.1.2 HX5.out).mono ?_
  rintro e w6 ⟨v6, rfl, hv6, hb6⟩
  obtain ⟨ea, ec, hv6e⟩ := hv6.form
  obtain ⟨en, hen⟩ : ∃ n, n = l.dn.length := ⟨_, rfl⟩
  rw [← hen] at hv6e
  subst hv6e
  have HEN : Hid (en = l.dn.length) := hen
  clear hen
  have e6 := (hb6.block X (ltOf HF5.out.1)).trans HF5.out.1
  have k6 := (hb6.block K (ltOf HF5.out.2.1)).trans HF5.out.2.1
  obtain ⟨W7, hW7⟩ : ∃ W, W = (w6.setCell ⟨X, 2, none⟩ (.slice none 0 0)).setCell ⟨X, 4, none⟩ (.slice ea en ec) := ⟨_, rfl⟩
  have HF7 : Hid (W7.heap[X]? = some (.cells #[.int .i64 x.id, .int .i64 x.pa, .slice none 0 0, .bool x.hd, .slice ea en ec] 61) ∧ W7.heap[K]? = some (.cells #[.int .i64 b.st, vw, .slice la ln lc, vs, .map (some bp), .map (some bm)] 71) ∧ IS W7 w5.heap.size (.slice ea en ec) l.dn ∧ W7.heap.size = w6.heap.size ∧ (∀ q, q ≠ X → W7.heap[q]? = w6.heap[q]?) ∧ Below w5.heap.size w5 w6) := by
    have hoth : ∀ q, q ≠ X → W7.heap[q]? = w6.heap[q]? := fun q hq => by rw [hW7, heap_setCell_other _ _ _ _ (by simpa using hq), heap_setCell_other _ _ _ _ (by simpa using hq)]
    have hX5 := ltOf HF5.out.1
    refine ⟨?_, (hoth K (by have := HK.out; have := HW0.out; omega)).trans k6, hv6.kept fun q hq => hoth q (by have := (IS.lt hv6 q hq).1; omega), by rw [hW7]; simp, hoth, hb6⟩
    have s0 := heap_setCell_same _ _ 2 _ _ (.slice none 0 0) e6
    have s1 := heap_setCell_same _ _ 4 _ _ (.slice ea en ec) s0
    rw [hW7]
    simpa using s1
  have HW7 : Hid (W7 = _) := hW7
  have HW7E : Hid (W7 = (w6.setCell ⟨X, 2, none⟩ (.slice none 0 0)).setCell ⟨X, 4, none⟩ (.slice ea en ec)) := hW7
  have z2 := cellOf e6 2 rfl
  have z4 := cellOf e6 4 rfl
  have zf2 := frozOf e6 2
  have zf4 := frozOf e6 4
  have zl := ltOf e6
  clear hW7 hv6 hb6 e6 k6 p0 p1 p2 p3 p4 pl HX5
  go_wp2
  rw [← HW7.out]
  clear HW7 z2 z4 zf2 zf4 zl
  obtain ⟨i0, hi0, hz0, hz1, hz2⟩ := info_parts info_Lot
  obtain ⟨r, hr⟩ : ∃ r : Lr, r = ⟨x.id, x.pa, none, 0, 0, x.hd, ea, en, ec⟩ := ⟨_, rfl⟩
  have HR : Hid (r = ⟨x.id, x.pa, none, 0, 0, x.hd, ea, en, ec⟩) := hr
  have hlr : lrC r = [.int .i64 x.id, .int .i64 x.pa, .slice none 0 0, .bool x.hd, .slice ea en ec] := by rw [hr]; rfl
  have HBW : Hid (∀ q, q < w.heap.size → q ≠ bp → q ≠ bm → W7.heap[q]? = w.heap[q]?) := fun q h1 h2 h3 => by
    have h0 := HW0.out
    have hs3 := HF3.out.2.2.1
    have hs4 := HF4.out.2.2.2.2.size
    have hs5 := HF5.out.2.2.2.2.size
    exact (HF7.out.2.2.2.2.1 q (by omega)).trans ((HF7.out.2.2.2.2.2.block q (by omega)).trans ((HF5.out.2.2.2.2.block q (by omega) (fun e => h3 (by injection e))).trans ((HF4.out.2.2.2.2.block q (by omega)).trans (HF3.out.2.2.2.1 q h1 h2))))
  have hszs : w.heap.size + 1 ≤ w3.heap.size ∧ w3.heap.size ≤ w4.heap.size ∧ w4.heap.size ≤ w5.heap.size ∧ w5.heap.size ≤ W7.heap.size := by
    have h0 := HW0.out
    have hs3 := HF3.out.2.2.1
    have hs4 := HF4.out.2.2.2.2.size
    have hs5 := HF5.out.2.2.2.2.size
    have hs6 := HF7.out.2.2.2.2.2.size
    have hs7 := HF7.out.2.2.2.1
    omega
  have HSZ : Hid (w.heap.size + 1 ≤ w3.heap.size ∧ w3.heap.size ≤ w4.heap.size ∧ w4.heap.size ≤ w5.heap.size ∧ w5.heap.size ≤ W7.heap.size ∧ B ≤ W7.heap.size) := ⟨hszs.1, hszs.2.1, hszs.2.2.1, hszs.2.2.2, by have := HK.out; omega⟩
  have hrowW : W7.ownsRow B 61 5 (.slice la ln lc) ln (rs.flatMap lrC) := by
    have h1 := ownsRow_keep (V' := W7) H.out.1.pb.row fun q hq => by
      obtain ⟨_, hq2, cs, e⟩ := rowBlk H.out.1.pb.row hq
      obtain ⟨es, cl, ho⟩ := H.out.1.ip.obj
      obtain ⟨es2, cl2, ho2⟩ := H.out.2.2.2.2.2.2.obj
      exact HBW.out q hq2 (fun e2 => by subst e2; rw [e] at ho; cases ho) (fun e2 => by subst e2; rw [e] at ho2; cases ho2)
    rw [H.out.1.pb.len, ← H.out.2.2.2.2.2.1] at h1
    exact h1
  have HRW : Hid (W7.ownsRow B 61 5 (.slice la ln lc) ln (rs.flatMap lrC)) := hrowW
  obtain ⟨k0, k1, k2, k3, k4, k5, kl⟩ := six_of HF7.out.2.1
  obtain ⟨p0, p1, p2, p3, p4, pl⟩ := five_atQ HF7.out.1
  clear hr hszs hrowW
  have HKC : Hid (∀ u : World, u.heap[X]? = some (.cells #[.int .i64 x.id, .int .i64 x.pa, .slice none 0 0, .bool x.hd, .slice ea en ec] 61) → u.cell? ⟨X, 0, none⟩ = some (.int .i64 x.id) ∧ u.cell? ⟨X, 1, none⟩ = some (.int .i64 x.pa) ∧ u.cell? ⟨X, 2, none⟩ = some (.slice none 0 0) ∧ u.cell? ⟨X, 3, none⟩ = some (.bool x.hd) ∧ u.cell? ⟨X, 4, none⟩ = some (.slice ea en ec)) := fun u h => ⟨cellOf h 0 rfl, cellOf h 1 rfl, cellOf h 2 rfl, cellOf h 3 rfl, cellOf h 4 rfl⟩
  clear k0 k1 k3 k4 k5 p0 p1 p2 p3 p4 pl
  refine wp_region_holdsA (S := fun u => u.heap[X]? = some (.cells #[.int .i64 x.id, .int .i64 x.pa, .slice none 0 0, .bool x.hd, .slice ea en ec] 61) ∧ True ∧ True) (by kernel_rfl) ⟨HF7.out.1, trivial, trivial⟩ (fun hS => ?_)
  refine fl_takeA (i := 0) (d := 30) (v := .pointer (some ⟨K, 0, none⟩)) rfl rfl rfl (by kernel_rfl) (by kernel_rfl) (by kernel_rfl) hS ?_ ?_
  · intro w' hk; obtain ⟨hk0, hk1, hk2⟩ := hk; go_simp
  simp only [Act.put, List.setIfInBounds_toArray, List.set_cons_zero, List.set_cons_succ]
  refine fl_takeA (i := 1) (d := 31) (v := .pointer (some ⟨K, 0, none⟩)) rfl rfl rfl (by kernel_rfl) (by kernel_rfl) (by kernel_rfl) hS ?_ ?_
  · intro w' hk; obtain ⟨hk0, hk1, hk2⟩ := hk; go_simp
  simp only [Act.put, List.setIfInBounds_toArray, List.set_cons_zero, List.set_cons_succ]
  refine fl_takeA (i := 2) (d := 32) (v := .pointer (some ⟨K, 0, none⟩)) rfl rfl rfl (by kernel_rfl) (by kernel_rfl) (by kernel_rfl) hS ?_ ?_
  · intro w' hk; obtain ⟨hk0, hk1, hk2⟩ := hk; go_simp
  simp only [Act.put, List.setIfInBounds_toArray, List.set_cons_zero, List.set_cons_succ]
  refine fl_takeA (i := 3) (d := 33) (v := .pointer (some ⟨K, 0, none⟩)) rfl rfl rfl (by kernel_rfl) (by kernel_rfl) (by kernel_rfl) hS ?_ ?_
  · intro w' hk; obtain ⟨hk0, hk1, hk2⟩ := hk; go_simp
  simp only [Act.put, List.setIfInBounds_toArray, List.set_cons_zero, List.set_cons_succ]
  refine fl_takeA (i := 4) (d := 34) (v := .pointer (some ⟨K, 2, none⟩)) rfl rfl rfl (by kernel_rfl) (by kernel_rfl) (by kernel_rfl) hS ?_ ?_
  · intro w' hk; obtain ⟨hk0, hk1, hk2⟩ := hk; go_simp
  simp only [Act.put, List.setIfInBounds_toArray, List.set_cons_zero, List.set_cons_succ]
  refine fl_takeA (i := 6) (d := 36) (v := .agg #[.int .i64 x.id, .int .i64 x.pa, .slice none 0 0, .bool x.hd, .slice ea en ec]) rfl rfl rfl (by kernel_rfl) (by kernel_rfl) (by kernel_rfl) hS ?_ ?_
  · intro w' hk; obtain ⟨hk1, hk0, hk2⟩ := hk; obtain ⟨y0, y1, y2, y3, y4⟩ := HKC.out w' hk1; go_simp
  simp only [Act.put, List.setIfInBounds_toArray, List.set_cons_zero, List.set_cons_succ]
  obtain ⟨W8, hW8⟩ : ∃ W, W = W7.drew.alloc (.cells #[.int .i64 x.id, .int .i64 x.pa, .slice none 0 0, .bool x.hd, .slice ea en ec] 61) := ⟨_, rfl⟩
  have HW8 : Hid (Below W7.heap.size W7 W8 ∧ W8.heap[W7.heap.size]? = some (.cells #[.int .i64 x.id, .int .i64 x.pa, .slice none 0 0, .bool x.hd, .slice ea en ec] 61)) := by
    rw [hW8]
    exact ⟨Below.alloc ((Below.refl _ _).drew) (Nat.le_refl _) _, heap_alloc_new W7.drew _⟩
  have HRW8 : Hid (W8.ownsRow B 61 5 (.slice la ln lc) ln (rs.flatMap lrC)) := ownsRow_keep HRW.out fun q hq => HW8.out.1.block q (World.ownsRow.lt HRW.out q hq).2
  have HNEW : Hid (∀ j u, [Value.int .i64 x.id, .int .i64 x.pa, .slice none 0 0, .bool x.hd, .slice ea en ec][j]? = some u → W8.cell? ((⟨W7.heap.size, 0, none⟩ : Addr).add j) = some u) :=
    World.news_of_block (cs := #[.int .i64 x.id, .int .i64 x.pa, .slice none 0 0, .bool x.hd, .slice ea en ec]) (t := 61) (fr := (0, 0)) HW8.out.2
  have hB8 : B ≤ W8.heap.size := by have := HSZ.out; have := HW8.out.1.size; omega
  have HX8 : Hid (W8.heap[X]? = some (.cells #[.int .i64 x.id, .int .i64 x.pa, .slice none 0 0, .bool x.hd, .slice ea en ec] 61) ∧ W8.heap[K]? = some (.cells #[.int .i64 b.st, vw, .slice la ln lc, vs, .map (some bp), .map (some bm)] 71)) := ⟨(HW8.out.1.block X (ltOf HF7.out.1)).trans HF7.out.1, (HW8.out.1.block K (ltOf HF7.out.2.1)).trans HF7.out.2.1⟩
  have hvK : ∀ q, (Value.slice la ln lc).ownBlock = some q → q < X ∧ q ≠ K := fun q hq => by
    obtain ⟨_, h2, cs, e⟩ := rowBlk H.out.1.pb.row hq
    refine ⟨by have := HW0.out.2.2.2.2; omega, fun e2 => ?_⟩
    subst e2
    exact absurd (by have h3 := H.out.1.bx; rw [e] at h3; simp only [Option.some.injEq, Obj.cells.injEq] at h3; exact h3.2.1) (by decide)
  have HVK : Hid (∀ q, (Value.slice la ln lc).ownBlock = some q → q < X ∧ q ≠ K) := hvK
  have k2d : W7.drew.cell? ⟨K, 2, none⟩ = some (.slice la ln lc) := k2
  have kld : K < W7.drew.heap.size := kl
  clear hvK k2 kl hS
  have HOP7 : Hid (∀ {ops : Array Oper} {Q : Exit → Act → World → Prop}, True) := fun {_} {_} => trivial
  clear HOP7
  refine wpAnyH_all (rs := [5, 7]) (by kernel_rfl) (by simp) ?_
  intro i hi
  rcases (by simpa using hi : i = 5 ∨ i = 7) with rfl | rfl
  · clear hi
    refine op_val (d := 35) (v := .slice la ln lc) (w' := W7.drew) rfl rfl rfl (by go_simp; try rfl) ?_
    simp only [Act.put, List.setIfInBounds_toArray, List.set_cons_zero, List.set_cons_succ]
    refine ⟨⟨HF7.out.1, trivial, trivial⟩, ?_⟩
    refine wpAnyH_all (rs := [7]) (by kernel_rfl) (by simp) ?_
    intro i hi
    obtain rfl : i = 7 := by simpa using hi
    clear hi
    refine op_val (d := 37) (v := .slice (some ⟨W7.heap.size, 0, none⟩) 1 1) (w' := W8) rfl rfl rfl (by rw [hW8]; go_simp; try rfl) ?_
    simp only [Act.put, List.setIfInBounds_toArray, List.set_cons_zero, List.set_cons_succ]
    refine ⟨⟨HX8.out.1, trivial, trivial⟩, ?_⟩
    clear k2d kld hW8
    refine wpAnyH_all (rs := [8]) (by kernel_rfl) (by simp) ?_
    intro i hi
    obtain rfl : i = 8 := by simpa using hi
    clear hi
    refine op_appA rfl rfl rfl _ _ 29 rfl B 61 i0 (.agg #[.int .i64 0, .int .i64 0, .slice none 0 0, .bool false, .slice none 0 0]) 5 72 Try.underlying29 hi0 hz0 hz1 hz2 rfl (by decide) (.slice la ln lc) ln _ rfl HRW8.out (some ⟨W7.heap.size, 0, none⟩) 1 1 [.int .i64 x.id, .int .i64 x.pa, .slice none 0 0, .bool x.hd, .slice ea en ec] rfl (by rfl) (fun e => by cases e) (fun ad e => by injection e with e; subst e; exact HNEW.out) (by intro u hu; simp only [List.mem_cons, List.not_mem_nil, or_false] at hu; rcases hu with rfl | rfl | rfl | rfl | rfl <;> rfl) (by unfold maxLen; omega) (by omega) hB8 ?_
    intro v9 w9 hown9 hgrow9
    obtain ⟨va9, vc9, hv9⟩ : ∃ a c, v9 = .slice a (ln + 1) c := by
      rcases hown9.2 with ⟨_, h0⟩ | ⟨g, cap, cur, rfl, _⟩
      · omega
      · exact ⟨_, _, rfl⟩
    subst hv9
    simp only [Act.put, List.setIfInBounds_toArray, List.set_cons_zero, List.set_cons_succ]
    have hX9 := (hgrow9.block X (ltOf HX8.out.1) (fun e => by have := (HVK.out X e.symm).1; omega)).trans HX8.out.1
    have hK9 := (hgrow9.block K (ltOf HX8.out.2) (fun e => (HVK.out K e.symm).2 rfl)).trans HX8.out.2
    have hS9 : (fun u : World => u.heap[X]? = some (.cells #[.int .i64 x.id, .int .i64 x.pa, .slice none 0 0, .bool x.hd, .slice ea en ec] 61) ∧ True ∧ True) w9 := ⟨hX9, trivial, trivial⟩
    refine ⟨hS9, ?_⟩
    refine fl_takeA (i := 9) (d := 39) (v := .pointer (some ⟨K, 0, none⟩)) rfl rfl rfl (by kernel_rfl) (by kernel_rfl) (by kernel_rfl) hS9 ?_ ?_
    · intro w' hk; go_simp
    simp only [Act.put, List.setIfInBounds_toArray, List.set_cons_zero, List.set_cons_succ]
    refine fl_takeA (i := 10) (d := 40) (v := .pointer (some ⟨K, 0, none⟩)) rfl rfl rfl (by kernel_rfl) (by kernel_rfl) (by kernel_rfl) hS9 ?_ ?_
    · intro w' hk; go_simp
    simp only [Act.put, List.setIfInBounds_toArray, List.set_cons_zero, List.set_cons_succ]
    refine fl_takeA (i := 11) (d := 41) (v := .pointer (some ⟨K, 2, none⟩)) rfl rfl rfl (by kernel_rfl) (by kernel_rfl) (by kernel_rfl) hS9 ?_ ?_
    · intro w' hk; go_simp
    simp only [Act.put, List.setIfInBounds_toArray, List.set_cons_zero, List.set_cons_succ]
    refine wpAnyH_all (rs := [12]) (by kernel_rfl) (by simp) ?_
    intro i hi
    obtain rfl : i = 12 := by simpa using hi
    clear hi
    have kc := cellOf hK9 2 rfl
    have kf := frozOf hK9 2
    have kl := ltOf hK9
    refine op_skipN (w' := w9.setCell ⟨K, 2, none⟩ (.slice va9 (ln + 1) vc9)) rfl rfl (by go_simp; try rfl) ?_
    have hKX : K ≠ X := by have := HK.out.2.2.1; have := HW0.out.2.2.2.2; omega
    refine ⟨⟨(heap_setCell_other _ _ _ _ (by simpa using fun e => hKX e.symm)).trans hX9, trivial, trivial⟩, wpAnyH_done (by kernel_rfl) (NoPanic.normal ?_) _⟩
    obtain ⟨W10, hW10⟩ : ∃ W, W = w9.setCell ⟨K, 2, none⟩ (.slice va9 (ln + 1) vc9) := ⟨_, rfl⟩
    have HFIN : Hid (OB W10 B K bp bm vw (.slice va9 (ln + 1) vc9) vs (updF f (ikI l.id) (some (va4, vn4, vc4))) { b with ls := b.ls ++ [l] } (rs ++ [r]) ∧ TM W10 2 bm (m0 + 1) (updF f (ikI l.id) (some (va4, vn4, vc4))) ∧ Below B w W10) := by
      have hk := HK.out
      have h0 := HW0.out
      have hz := HSZ.out
      have hsz8 := HW8.out.1.size
      have hsz9 := hgrow9.size
      have hsz10 : W10.heap.size = w9.heap.size := by rw [hW10]; simp
      have hxid := H.out.2.1.id
      have o10 : ∀ q, q ≠ K → W10.heap[q]? = w9.heap[q]? := fun q hq => by rw [hW10, heap_setCell_other _ _ _ _ (by simpa using hq)]
      have o7 : ∀ q, q < W7.heap.size → q ≠ K → (Value.slice la ln lc).ownBlock ≠ some q → W10.heap[q]? = W7.heap[q]? := fun q h1 h2 h3 => (o10 q h2).trans ((hgrow9.block q (by omega) (fun e => h3 e.symm)).trans (HW8.out.1.block q h1))
      have o5 : ∀ q, X < q → q < w5.heap.size → q ≠ bp → W10.heap[q]? = w5.heap[q]? := fun q h1 h2 _ => (o7 q (by omega) (by omega) (fun e => by have := (HVK.out q e).1; omega)).trans ((HF7.out.2.2.2.2.1 q (by omega)).trans (HF7.out.2.2.2.2.2.block q h2))
      have om : ∀ q, (q = bp ∨ q = bm) → W10.heap[q]? = w5.heap[q]? := fun q hq => by
        have hqs : q < w.heap.size := by rcases hq with rfl | rfl <;> omega
        have hqv : (Value.slice la ln lc).ownBlock ≠ some q := fun e => by
          obtain ⟨_, _, cs, e2⟩ := rowBlk H.out.1.pb.row e
          obtain ⟨es, cl, ho⟩ := H.out.1.ip.obj
          obtain ⟨es2, cl2, ho2⟩ := H.out.2.2.2.2.2.2.obj
          rcases hq with rfl | rfl
          · rw [e2] at ho; cases ho
          · rw [e2] at ho2; cases ho2
        exact (o7 q (by omega) (by rcases hq with rfl | rfl <;> omega) hqv).trans ((HF7.out.2.2.2.2.1 q (by omega)).trans (HF7.out.2.2.2.2.2.block q (by omega)))
      have hI5 : IM 3 w5 bp (b.ls.length + 1) (fun q => if x.id = q then some (ln : Int) else plF b.ls b.ls.length q) :=
        (HI3.out.1.block (HF4.out.2.2.2.2.block bp (by omega))).block (HF5.out.2.2.2.2.block bp (by omega) (fun e => hk.2.2.2.2.2.1 (by injection e)))
      have hT5 := HF5.out.2.2.1
      rw [hxid] at hT5
      have hb10 : Below B w W10 := by
        have b9 : Below B w w9 := by
          have b8 : Below B w W8 := (HF3.out.2.2.2.2.trans ((HF4.out.2.2.2.2.mono (by omega)).grown HF5.out.2.2.2.2 (by omega) (fun j hj => by injection hj with hj; omega))).trans ?_
          · exact b8.grown hgrow9 (by omega) (fun j hj => (World.ownsRow.lt HRW8.out j hj).1)
          · have b56 : Below B w5 w6 := HF7.out.2.2.2.2.2.mono (by omega)
            have b67 : Below B w6 W7 := ⟨by rw [HW7E.out]; rfl, by rw [HW7E.out]; rfl, by rw [HW7E.out]; rfl, by rw [HF7.out.2.2.2.1]; exact Nat.le_refl _, fun q hq => HF7.out.2.2.2.2.1 q (by omega)⟩
            exact (b56.trans b67).trans (HW8.out.1.mono (by omega))
        rw [hW10]
        exact b9.setCell (by simp; omega) _
      refine ⟨H.out.1.push (V6 := W10) (n := 0) (m := m0 + 1) (sW := (va4, vn4, vc4)) (l := l) (r := r) ?_ (by omega) ?_ ?_ ?_ ?_ ?_ ?_ ?_ ?_ (by omega) (hT5.block (om bm (Or.inr rfl))) H.out.2.2.2.1 H.out.2.2.2.2.1 (by rw [← H.out.2.2.2.2.2.1]; exact hl30), hT5.block (om bm (Or.inr rfl)), hb10⟩
      · intro q h1 h2 h3 h4 h5
        exact (o7 q (by omega) h5 h4).trans (HBW.out q h1 h2 h3)
      · rw [hW10]
        have s0 := heap_setCell_same _ _ 2 _ _ (.slice va9 (ln + 1) vc9) hK9
        simpa using s0
      · rw [hW10]
        have h9 : OG 61 5 lrC w9 B (.slice va9 (ln + 1) vc9) (rs ++ [r]) := by
          show World.ownsRow _ _ _ _ _ _ _
          rw [List.length_append, List.length_singleton, List.flatMap_append, List.flatMap_singleton, H.out.1.pb.len, ← H.out.2.2.2.2.2.1, hlr]
          exact hown9
        refine ownsRow_keep h9 fun q hq => ?_
        have hqK : q ≠ K := by
          rintro rfl
          obtain ⟨_, _, cs, e⟩ := rowBlk hown9 hq
          rw [hK9] at e
          simp only [Option.some.injEq, Obj.cells.injEq] at e
          exact absurd e.2.1 (by decide)
        exact heap_setCell_other _ _ _ _ (by simpa using hqK)
      · refine IS.low (HF5.out.2.2.2.1.kept fun q hq => o5 q ?_ (IS.lt HF5.out.2.2.2.1 q hq).2 ?_) (by omega)
        · have := (IS.lt HF5.out.2.2.2.1 q hq).1; omega
        · have := (IS.lt HF5.out.2.2.2.1 q hq).1; omega
      · rw [HR.out]
        refine IS.low (HF7.out.2.2.1.kept fun q hq => o7 q (IS.lt HF7.out.2.2.1 q hq).2 ?_ ?_) (by omega)
        · have := (IS.lt HF7.out.2.2.1 q hq).1; omega
        · intro e
          have h1 := (HVK.out q e).1
          have := (IS.lt HF7.out.2.2.1 q hq).1
          omega
      · intro g hg e
        rw [HR.out] at e
        have h1 := (IS.lt HF5.out.2.2.2.1 g hg).2
        have h2 := (IS.lt HF7.out.2.2.1 g e).1
        omega
      · rw [HR.out]; exact ⟨hxid, H.out.2.1.pa, H.out.2.1.hd⟩
      · rw [HR.out]; exact ⟨rfl, rfl, rfl⟩
      · refine (hI5.block (om bp (Or.inl rfl))).conv fun q => ?_
        rw [plF_push, hxid, H.out.2.2.2.2.2.1]
    rw [← hW10]
    clear hown9 hgrow9 hX9 hK9 hS9 kc kf kl hKX hW10
    go_wp2
    go_end0
    exact ⟨⟨_, rfl⟩, _, _, _, HFIN.out⟩
  · clear hi
    refine op_val (d := 37) (v := .slice (some ⟨W7.heap.size, 0, none⟩) 1 1) (w' := W8) rfl rfl rfl (by rw [hW8]; go_simp; try rfl) ?_
    simp only [Act.put, List.setIfInBounds_toArray, List.set_cons_zero, List.set_cons_succ]
    refine ⟨⟨HX8.out.1, trivial, trivial⟩, ?_⟩
    clear k2d kld hW8
    have k2e := cellOf HX8.out.2 2 rfl
    have kle := ltOf HX8.out.2
    refine wpAnyH_all (rs := [5]) (by kernel_rfl) (by simp) ?_
    intro i hi
    obtain rfl : i = 5 := by simpa using hi
    clear hi
    refine op_val (d := 35) (v := .slice la ln lc) (w' := W8) rfl rfl rfl (by go_simp; try rfl) ?_
    simp only [Act.put, List.setIfInBounds_toArray, List.set_cons_zero, List.set_cons_succ]
    refine ⟨⟨HX8.out.1, trivial, trivial⟩, ?_⟩
    clear k2e kle
    refine wpAnyH_all (rs := [8]) (by kernel_rfl) (by simp) ?_
    intro i hi
    obtain rfl : i = 8 := by simpa using hi
    clear hi
    refine op_appA rfl rfl rfl _ _ 29 rfl B 61 i0 (.agg #[.int .i64 0, .int .i64 0, .slice none 0 0, .bool false, .slice none 0 0]) 5 72 Try.underlying29 hi0 hz0 hz1 hz2 rfl (by decide) (.slice la ln lc) ln _ rfl HRW8.out (some ⟨W7.heap.size, 0, none⟩) 1 1 [.int .i64 x.id, .int .i64 x.pa, .slice none 0 0, .bool x.hd, .slice ea en ec] rfl (by rfl) (fun e => by cases e) (fun ad e => by injection e with e; subst e; exact HNEW.out) (by intro u hu; simp only [List.mem_cons, List.not_mem_nil, or_false] at hu; rcases hu with rfl | rfl | rfl | rfl | rfl <;> rfl) (by unfold maxLen; omega) (by omega) hB8 ?_
    intro v9 w9 hown9 hgrow9
    obtain ⟨va9, vc9, hv9⟩ : ∃ a c, v9 = .slice a (ln + 1) c := by
      rcases hown9.2 with ⟨_, h0⟩ | ⟨g, cap, cur, rfl, _⟩
      · omega
      · exact ⟨_, _, rfl⟩
    subst hv9
    simp only [Act.put, List.setIfInBounds_toArray, List.set_cons_zero, List.set_cons_succ]
    have hX9 := (hgrow9.block X (ltOf HX8.out.1) (fun e => by have := (HVK.out X e.symm).1; omega)).trans HX8.out.1
    have hK9 := (hgrow9.block K (ltOf HX8.out.2) (fun e => (HVK.out K e.symm).2 rfl)).trans HX8.out.2
    have hS9 : (fun u : World => u.heap[X]? = some (.cells #[.int .i64 x.id, .int .i64 x.pa, .slice none 0 0, .bool x.hd, .slice ea en ec] 61) ∧ True ∧ True) w9 := ⟨hX9, trivial, trivial⟩
    refine ⟨hS9, ?_⟩
    refine fl_takeA (i := 9) (d := 39) (v := .pointer (some ⟨K, 0, none⟩)) rfl rfl rfl (by kernel_rfl) (by kernel_rfl) (by kernel_rfl) hS9 ?_ ?_
    · intro w' hk; go_simp
    simp only [Act.put, List.setIfInBounds_toArray, List.set_cons_zero, List.set_cons_succ]
    refine fl_takeA (i := 10) (d := 40) (v := .pointer (some ⟨K, 0, none⟩)) rfl rfl rfl (by kernel_rfl) (by kernel_rfl) (by kernel_rfl) hS9 ?_ ?_
    · intro w' hk; go_simp
    simp only [Act.put, List.setIfInBounds_toArray, List.set_cons_zero, List.set_cons_succ]
    refine fl_takeA (i := 11) (d := 41) (v := .pointer (some ⟨K, 2, none⟩)) rfl rfl rfl (by kernel_rfl) (by kernel_rfl) (by kernel_rfl) hS9 ?_ ?_
    · intro w' hk; go_simp
    simp only [Act.put, List.setIfInBounds_toArray, List.set_cons_zero, List.set_cons_succ]
    refine wpAnyH_all (rs := [12]) (by kernel_rfl) (by simp) ?_
    intro i hi
    obtain rfl : i = 12 := by simpa using hi
    clear hi
    have kc := cellOf hK9 2 rfl
    have kf := frozOf hK9 2
    have kl := ltOf hK9
    refine op_skipN (w' := w9.setCell ⟨K, 2, none⟩ (.slice va9 (ln + 1) vc9)) rfl rfl (by go_simp; try rfl) ?_
    have hKX : K ≠ X := by have := HK.out.2.2.1; have := HW0.out.2.2.2.2; omega
    refine ⟨⟨(heap_setCell_other _ _ _ _ (by simpa using fun e => hKX e.symm)).trans hX9, trivial, trivial⟩, wpAnyH_done (by kernel_rfl) (NoPanic.normal ?_) _⟩
    obtain ⟨W10, hW10⟩ : ∃ W, W = w9.setCell ⟨K, 2, none⟩ (.slice va9 (ln + 1) vc9) := ⟨_, rfl⟩
    have HFIN : Hid (OB W10 B K bp bm vw (.slice va9 (ln + 1) vc9) vs (updF f (ikI l.id) (some (va4, vn4, vc4))) { b with ls := b.ls ++ [l] } (rs ++ [r]) ∧ TM W10 2 bm (m0 + 1) (updF f (ikI l.id) (some (va4, vn4, vc4))) ∧ Below B w W10) := by
      have hk := HK.out
      have h0 := HW0.out
      have hz := HSZ.out
      have hsz8 := HW8.out.1.size
      have hsz9 := hgrow9.size
      have hsz10 : W10.heap.size = w9.heap.size := by rw [hW10]; simp
      have hxid := H.out.2.1.id
      have o10 : ∀ q, q ≠ K → W10.heap[q]? = w9.heap[q]? := fun q hq => by rw [hW10, heap_setCell_other _ _ _ _ (by simpa using hq)]
      have o7 : ∀ q, q < W7.heap.size → q ≠ K → (Value.slice la ln lc).ownBlock ≠ some q → W10.heap[q]? = W7.heap[q]? := fun q h1 h2 h3 => (o10 q h2).trans ((hgrow9.block q (by omega) (fun e => h3 e.symm)).trans (HW8.out.1.block q h1))
      have o5 : ∀ q, X < q → q < w5.heap.size → q ≠ bp → W10.heap[q]? = w5.heap[q]? := fun q h1 h2 _ => (o7 q (by omega) (by omega) (fun e => by have := (HVK.out q e).1; omega)).trans ((HF7.out.2.2.2.2.1 q (by omega)).trans (HF7.out.2.2.2.2.2.block q h2))
      have om : ∀ q, (q = bp ∨ q = bm) → W10.heap[q]? = w5.heap[q]? := fun q hq => by
        have hqs : q < w.heap.size := by rcases hq with rfl | rfl <;> omega
        have hqv : (Value.slice la ln lc).ownBlock ≠ some q := fun e => by
          obtain ⟨_, _, cs, e2⟩ := rowBlk H.out.1.pb.row e
          obtain ⟨es, cl, ho⟩ := H.out.1.ip.obj
          obtain ⟨es2, cl2, ho2⟩ := H.out.2.2.2.2.2.2.obj
          rcases hq with rfl | rfl
          · rw [e2] at ho; cases ho
          · rw [e2] at ho2; cases ho2
        exact (o7 q (by omega) (by rcases hq with rfl | rfl <;> omega) hqv).trans ((HF7.out.2.2.2.2.1 q (by omega)).trans (HF7.out.2.2.2.2.2.block q (by omega)))
      have hI5 : IM 3 w5 bp (b.ls.length + 1) (fun q => if x.id = q then some (ln : Int) else plF b.ls b.ls.length q) :=
        (HI3.out.1.block (HF4.out.2.2.2.2.block bp (by omega))).block (HF5.out.2.2.2.2.block bp (by omega) (fun e => hk.2.2.2.2.2.1 (by injection e)))
      have hT5 := HF5.out.2.2.1
      rw [hxid] at hT5
      have hb10 : Below B w W10 := by
        have b9 : Below B w w9 := by
          have b8 : Below B w W8 := (HF3.out.2.2.2.2.trans ((HF4.out.2.2.2.2.mono (by omega)).grown HF5.out.2.2.2.2 (by omega) (fun j hj => by injection hj with hj; omega))).trans ?_
          · exact b8.grown hgrow9 (by omega) (fun j hj => (World.ownsRow.lt HRW8.out j hj).1)
          · have b56 : Below B w5 w6 := HF7.out.2.2.2.2.2.mono (by omega)
            have b67 : Below B w6 W7 := ⟨by rw [HW7E.out]; rfl, by rw [HW7E.out]; rfl, by rw [HW7E.out]; rfl, by rw [HF7.out.2.2.2.1]; exact Nat.le_refl _, fun q hq => HF7.out.2.2.2.2.1 q (by omega)⟩
            exact (b56.trans b67).trans (HW8.out.1.mono (by omega))
        rw [hW10]
        exact b9.setCell (by simp; omega) _
      refine ⟨H.out.1.push (V6 := W10) (n := 0) (m := m0 + 1) (sW := (va4, vn4, vc4)) (l := l) (r := r) ?_ (by omega) ?_ ?_ ?_ ?_ ?_ ?_ ?_ ?_ (by omega) (hT5.block (om bm (Or.inr rfl))) H.out.2.2.2.1 H.out.2.2.2.2.1 (by rw [← H.out.2.2.2.2.2.1]; exact hl30), hT5.block (om bm (Or.inr rfl)), hb10⟩
      · intro q h1 h2 h3 h4 h5
        exact (o7 q (by omega) h5 h4).trans (HBW.out q h1 h2 h3)
      · rw [hW10]
        have s0 := heap_setCell_same _ _ 2 _ _ (.slice va9 (ln + 1) vc9) hK9
        simpa using s0
      · rw [hW10]
        have h9 : OG 61 5 lrC w9 B (.slice va9 (ln + 1) vc9) (rs ++ [r]) := by
          show World.ownsRow _ _ _ _ _ _ _
          rw [List.length_append, List.length_singleton, List.flatMap_append, List.flatMap_singleton, H.out.1.pb.len, ← H.out.2.2.2.2.2.1, hlr]
          exact hown9
        refine ownsRow_keep h9 fun q hq => ?_
        have hqK : q ≠ K := by
          rintro rfl
          obtain ⟨_, _, cs, e⟩ := rowBlk hown9 hq
          rw [hK9] at e
          simp only [Option.some.injEq, Obj.cells.injEq] at e
          exact absurd e.2.1 (by decide)
        exact heap_setCell_other _ _ _ _ (by simpa using hqK)
      · refine IS.low (HF5.out.2.2.2.1.kept fun q hq => o5 q ?_ (IS.lt HF5.out.2.2.2.1 q hq).2 ?_) (by omega)
        · have := (IS.lt HF5.out.2.2.2.1 q hq).1; omega
        · have := (IS.lt HF5.out.2.2.2.1 q hq).1; omega
      · rw [HR.out]
        refine IS.low (HF7.out.2.2.1.kept fun q hq => o7 q (IS.lt HF7.out.2.2.1 q hq).2 ?_ ?_) (by omega)
        · have := (IS.lt HF7.out.2.2.1 q hq).1; omega
        · intro e
          have h1 := (HVK.out q e).1
          have := (IS.lt HF7.out.2.2.1 q hq).1
          omega
      · intro g hg e
        rw [HR.out] at e
        have h1 := (IS.lt HF5.out.2.2.2.1 g hg).2
        have h2 := (IS.lt HF7.out.2.2.1 g e).1
        omega
      · rw [HR.out]; exact ⟨hxid, H.out.2.1.pa, H.out.2.1.hd⟩
      · rw [HR.out]; exact ⟨rfl, rfl, rfl⟩
      · refine (hI5.block (om bp (Or.inl rfl))).conv fun q => ?_
        rw [plF_push, hxid, H.out.2.2.2.2.2.1]
    rw [← hW10]
    clear hown9 hgrow9 hX9 hK9 hS9 kc kf kl hKX hW10
    go_wp2
    go_end0
    exact ⟨⟨_, rfl⟩, _, _, _, HFIN.out⟩

end Go.Proofs.Ytcfjanignfbidaa
