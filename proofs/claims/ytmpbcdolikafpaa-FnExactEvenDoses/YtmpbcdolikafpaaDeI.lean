/- Proved here: errorsOf of the program. -/
import Derived.Test.YtmpbcdolikafpaaSeF
import Derived.Test.YtmpbcdolikafpaaSeM
import Derived.Test.YtmpbcdolikafpaaCsB
import Derived.Test.YtmpbcdolikafpaaICut
import Derived.Test.YtmpbcdolikafpaaISweep
import Derived.Test.YtmpbcdolikafpaaFloat
import Derived.Test.YtmpbcdolikafpaaReg
import Derived.Deep.Cut
namespace Go.Proofs.Ytmpbcdolikafpaa
open Go.RowKit
set_option linter.unusedVariables false
set_option linter.unusedSimpArgs false

theorem rb_lit (w : World) (b : Bx) : RB (w.alloc (.cells #[.int .i64 b.x0, .int .i64 b.y0, .int .i64 b.x1, .int .i64 b.y1] 34)) (.slice (some ⟨w.heap.size, 0, none⟩) 1 1) [b] := by
  have k := heap_alloc_new w (.cells #[.int .i64 b.x0, .int .i64 b.y0, .int .i64 b.x1, .int .i64 b.y1] 34)
  refine ⟨some ⟨w.heap.size, 0, none⟩, 1, rfl, fun _ => ⟨w.heap.size, 0, rfl, ltOf k, fun j hj => ?_⟩⟩
  have hj0 : j = 0 := by simpa using hj
  subst hj0
  exact ⟨cellOf k 0 rfl, cellOf k 1 rfl, cellOf k 2 rfl, cellOf k 3 rfl⟩
theorem cnt_made {V y : World} {K zn zc : Nat} {za : Option Addr} {M : List Bx} (hy : Below V.heap.size V y) (hk : y.heap[K]? = some (.cells #[.slice none 0 0] 66)) (hi : BC y V.heap.size (.slice za zn zc) M) (hK : V.heap.size ≤ K) :
    ∃ W2, W2 = y.setCell ⟨K, 0, none⟩ (.slice za zn zc) ∧ Below V.heap.size V W2 ∧ W2.heap[K]? = some (.cells #[.slice za zn zc] 66) ∧ RB W2 (.slice za zn zc) M := by
  refine ⟨_, rfl, hy.setCell (p := ⟨K, 0, none⟩) hK _, ?_, ?_⟩
  · have s0 := heap_setCell_same _ _ 0 _ _ (.slice za zn zc) hk
    simpa using s0
  · obtain ⟨a, c, c', e, h⟩ := hi
    have h2 : BS (y.setCell ⟨K, 0, none⟩ (.slice za zn zc)) V.heap.size (.slice a M.length c) M := ownsRow_keep h fun g hg => heap_setCell_other _ _ _ _ (fun e => by
      have e : g = K := e
      rcases h.2 with ⟨e1, _⟩ | ⟨g', cap, cur, e1, _, hgc, _⟩
      · rw [e1] at hg; cases hg
      · injection e1 with e1
        rw [e1] at hg
        have e2 : g' = g := Option.some.inj hg
        rw [e2, e, hk] at hgc
        injection hgc with e4
        injection e4 with _ e5
        cases e5)
    have h3 : BC (y.setCell ⟨K, 0, none⟩ (.slice za zn zc)) V.heap.size (.slice za zn zc) M := ⟨a, c, c', e, h2⟩
    exact h3.rb

theorem store_fnc (a : Addr) (f : FuncId) (p : Nat) (w : World) : (store a (.func (.func f) #[] #[.pointer (some ⟨p, 0, none⟩)]) .plain).run Try.prog w = stored Try.prog w a (.func (.func f) #[] #[.pointer (some ⟨p, 0, none⟩)]) .plain := run_store Try.prog w a _ _ rfl
theorem seven_c {w : World} {k : Nat} {a b c d e f g : Value} {T : TypeId} (h : w.heap[k]? = some (.cells #[a, b, c, d, e, f, g] T)) : (w.cell? ⟨k, 0, none⟩ = some a ∧ w.cell? ⟨k, 1, none⟩ = some b ∧ w.cell? ⟨k, 2, none⟩ = some c ∧ w.cell? ⟨k, 3, none⟩ = some d ∧ w.cell? ⟨k, 4, none⟩ = some e ∧ w.cell? ⟨k, 5, none⟩ = some f ∧ w.cell? ⟨k, 6, none⟩ = some g) ∧ k < w.heap.size :=
  ⟨⟨cellOf h 0 rfl, cellOf h 1 rfl, cellOf h 2 rfl, cellOf h 3 rfl, cellOf h 4 rfl, cellOf h 5 rfl, cellOf h 6 rfl⟩, ltOf h⟩

set_option maxRecDepth 10000 in
set_option maxHeartbeats 12800000 in
theorem impl_eo (hH : HeightsOk) (hE : EdgesOk) (l : List Sh) (x : Wt) (z : Int) {w : World} {v : Value} (hl : l.length ≤ 40) (hlb : ∀ q ∈ boxesH l, q.x0 < q.x1) (hfb : x.f.x0 < x.f.x1) (h : RG 5 shC w v l) :
    Calls Try.prog 21 #[v, .agg #[.int .i64 x.f.x0, .int .i64 x.f.y0, .int .i64 x.f.x1, .int .i64 x.f.y1, .int .i64 x.o, .int .i64 x.s, .int .i64 x.r], .int .i64 z] w fun e w' => ∃ (q1 q2 q3 q4 p : Nat) (T1 : TypeId) (za : Option Addr) (zn zc : Nat), e = .returned (.func (Fn.func 39) #[] #[.pointer (some ⟨q1, 0, none⟩), .pointer (some ⟨q2, 0, none⟩), .pointer (some ⟨q3, 0, none⟩), .pointer (some ⟨q4, 0, none⟩)]) ∧ Hid (w'.heap[q1]? = some (.cells #[.func (Fn.func 47) #[] #[.pointer (some ⟨p, 0, none⟩)]] T1) ∧ w'.heap[q2]? = some (.cells #[.slice za zn zc] 66) ∧ w'.heap[q3]? = some (.cells #[.int .i64 x.f.x0, .int .i64 x.f.y0, .int .i64 x.f.x1, .int .i64 x.f.y1, .int .i64 x.o, .int .i64 x.s, .int .i64 x.r] 36) ∧ w'.heap[q4]? = some (.cells #[.int .i64 z] 2) ∧ w'.heap[p]? = some (.cells #[.int .i64 x.f.x0, .int .i64 x.f.y0, .int .i64 x.f.x1, .int .i64 x.f.y1, .int .i64 x.o, .int .i64 x.s, .int .i64 x.r] 36) ∧ RB w' (.slice za zn zc) (opOf bothK (boxesH l) [x.f])) ∧ Below w.heap.size w w' := by
  obtain ⟨a, c, rfl⟩ := h.form
  obtain ⟨n, hnn⟩ : ∃ n, n = l.length := ⟨_, rfl⟩
  rw [← hnn] at h ⊢
  have H : Hid (RG 5 shC w (.slice a n c) l) := h
  have HHE : Hid (HeightsOk ∧ EdgesOk) := ⟨hH, hE⟩
  have HNN : Hid (n = l.length) := hnn
  clear hnn
  clear hH hE
  obtain ⟨k0, hk0⟩ : ∃ k, k = w.heap.size := ⟨_, rfl⟩
  clear h
  have hst := store_fnc
  go_enter Try.func21, Try.ntmps21
  go_wp2_with (fail)
  refine (impl_spof x _).mono ?_
  rintro e w0 ⟨rfl, hp0, hb0⟩
  have HB0 : Hid (BB w [(w.heap.size, .cells #[.int .i64 x.f.x0, .int .i64 x.f.y0, .int .i64 x.f.x1, .int .i64 x.f.y1, .int .i64 x.o, .int .i64 x.s, .int .i64 x.r] 36), (w.heap.size + 1, .cells #[.int .i64 z] 2), (w.heap.size + 1 + 1, .cells #[.int .i64 x.f.x0, .int .i64 x.f.y0, .int .i64 x.f.x1, .int .i64 x.f.y1, .int .i64 x.o, .int .i64 x.s, .int .i64 x.r] 36)] (w.heap.size + 1 + 1 + 1) w0) := by
    have hp1 : w0.heap[w.heap.size + 1 + 1]? = some (.cells #[.int .i64 x.f.x0, .int .i64 x.f.y0, .int .i64 x.f.x1, .int .i64 x.f.y1, .int .i64 x.o, .int .i64 x.s, .int .i64 x.r] 36) := by simpa using hp0
    have q := (((BB.start w).push rfl (.cells #[.int .i64 x.f.x0, .int .i64 x.f.y0, .int .i64 x.f.x1, .int .i64 x.f.y1, .int .i64 x.o, .int .i64 x.s, .int .i64 x.r] 36)).push (k := w.heap.size + 1) (by simp) (.cells #[.int .i64 z] 2)).below hb0
    have hz := ltOf hp1
    refine ⟨fun p hp => ?_, fun p hp => ?_, ?_, q.bl, hz⟩
    · simp only [List.mem_cons, List.not_mem_nil, or_false] at hp
      rcases hp with rfl | rfl | rfl
      · exact q.at 0 rfl
      · exact q.at 1 rfl
      · exact hp1
    · simp only [List.mem_cons, List.not_mem_nil, or_false] at hp
      rcases hp with rfl | rfl | rfl <;> exact ⟨by simp <;> omega, by simp <;> omega⟩
    · simp <;> omega
  clear hp0 hb0
  rw [← hk0] at HB0 ⊢
  have HK : Hid (k0 = w.heap.size) := hk0
  clear hk0
  go_wp2_with (fail)
  obtain ⟨q1, hq1⟩ : ∃ q, q = w0.heap.size := ⟨_, rfl⟩
  obtain ⟨w1, hw1⟩ : ∃ W, W = w0.alloc (.cells #[.func (Fn.func 47) #[] #[.pointer (some ⟨k0 + 1 + 1, 0, none⟩)]] 70) := ⟨_, rfl⟩
  have HB1 : Hid (BB w [(k0, .cells #[.int .i64 x.f.x0, .int .i64 x.f.y0, .int .i64 x.f.x1, .int .i64 x.f.y1, .int .i64 x.o, .int .i64 x.s, .int .i64 x.r] 36), (k0 + 1, .cells #[.int .i64 z] 2), (k0 + 1 + 1, .cells #[.int .i64 x.f.x0, .int .i64 x.f.y0, .int .i64 x.f.x1, .int .i64 x.f.y1, .int .i64 x.o, .int .i64 x.s, .int .i64 x.r] 36), (q1, .cells #[.func (Fn.func 47) #[] #[.pointer (some ⟨k0 + 1 + 1, 0, none⟩)]] 70)] (q1 + 1) w1) := by rw [hw1]; exact HB0.out.push hq1 _
  rw [← HK.out, ← hq1, ← hw1]
  clear hw1 hq1 HB0
  have HSB : Hid (∀ V, Below w1.heap.size w1 V → Calls Try.prog 37 #[.slice a n c] V fun e w' => ∃ ya yc, e = .returned (.slice ya n yc) ∧ RB w' (.slice ya n yc) (boxesH l) ∧ Below V.heap.size V w') := fun V hV => by
    refine (impl_shotB hl ((H.out.below HB1.out.bl).below hV)).mono ?_
    rintro e w' ⟨v', rfl, hs, hb⟩
    obtain ⟨ya, yc, e⟩ := hs.rb.form
    rw [boxesH_len, ← HNN.out] at e
    subst e
    exact ⟨ya, yc, rfl, hs.rb, hb⟩
  have HSW : Hid (∀ V va vb, RB V va (boxesH l) → RB V vb [x.f] → Calls Try.prog 36 #[va, vb, .func (.func 38) #[] #[]] V fun e w' => ∃ za zn zc, e = .returned (.slice za zn zc) ∧ BC w' V.heap.size (.slice za zn zc) (opOf bothK (boxesH l) [x.f]) ∧ Below V.heap.size V w') := fun V va vb ha hb => by
    refine (impl_sweep HHE.out.1 HHE.out.2 word_and rfl (by rw [boxesH_len]; simp; omega) ha hb hlb (fun q hq => by rw [List.mem_singleton.1 hq]; exact hfb)).mono ?_
    rintro e w' ⟨v', rfl, hs, hb⟩
    obtain ⟨za, zc, e⟩ := hs.rb.form
    subst e
    exact ⟨za, _, zc, rfl, hs, hb⟩
  obtain ⟨⟨p0, p1, p2, p3, p4, p5, p6⟩, pl⟩ := seven_c (HB1.out.at 0 rfl)
  go_cut [8] from 9 (fun r8 wx => ∃ K za zn zc, r8 = .pointer (some ⟨K, 0, none⟩) ∧ Hid (Below w1.heap.size w1 wx ∧ wx.heap[K]? = some (.cells #[.slice za zn zc] 66) ∧ RB wx (.slice za zn zc) (opOf bothK (boxesH l) [x.f])))
  case first =>
    refine wp_region_float (by kernel_rfl) (fun hS => ?_)
    refine fl_take (i := 0) (d := 11) (v := .slice a n c) rfl rfl rfl (by kernel_rfl) (by kernel_rfl) (by kernel_rfl) hS ?_ ?_
    · intro w' hk; go_simp
    simp only [Act.put, List.setIfInBounds_toArray, List.set_cons_zero, List.set_cons_succ]
    refine fl_take (i := 2) (d := 13) (v := .pointer (some ⟨k0, 0, none⟩)) rfl rfl rfl (by kernel_rfl) (by kernel_rfl) (by kernel_rfl) hS ?_ ?_
    · intro w' hk; go_simp
    simp only [Act.put, List.setIfInBounds_toArray, List.set_cons_zero, List.set_cons_succ]
    refine fl_take (i := 3) (d := 14) (v := .agg #[.int .i64 x.f.x0, .int .i64 x.f.y0, .int .i64 x.f.x1, .int .i64 x.f.y1]) rfl rfl rfl (by kernel_rfl) (by kernel_rfl) (by kernel_rfl) hS ?_ ?_
    · intro w' hk; go_simp
    simp only [Act.put, List.setIfInBounds_toArray, List.set_cons_zero, List.set_cons_succ]
    have hy0 : Below w1.heap.size w1 w1.drew := (Below.refl _ _).drew
    refine wpAnyH_all (rs := [1, 4, 6]) (by kernel_rfl) (by simp) ?_
    intro iz hi
    rcases (by simpa using hi : iz = 1 ∨ iz = 4 ∨ iz = 6) with rfl | rfl | rfl
    · clear hi
      refine op_call (d := 12) rfl rfl rfl (by go_simp) ((HSB.out w1.drew hy0).mono ?_)
      rintro e w1da ⟨ya, yc, rfl, rw1da, bw1da⟩
      have hw1da : Below w1.heap.size w1 w1da := hy0.trans (bw1da.mono hy0.size)
      refine ⟨_, rfl, KS.of hw1da, ?_⟩
      simp only [Act.put, List.setIfInBounds_toArray, List.set_cons_zero, List.set_cons_succ]
      refine wpAnyH_all (rs := [4, 6]) (by kernel_rfl) (by simp) ?_
      intro iz hi
      rcases (by simpa using hi : iz = 4 ∨ iz = 6) with rfl | rfl
      · clear hi
        obtain ⟨w1dab, ew1dab⟩ : ∃ y, y = w1da.alloc (.cells #[.int .i64 x.f.x0, .int .i64 x.f.y0, .int .i64 x.f.x1, .int .i64 x.f.y1] 34) := ⟨_, rfl⟩
        have bw1dab : Below w1da.heap.size w1da w1dab := by rw [ew1dab]; (repeat' (first | (with_reducible exact Below.refl _ _) | (with_reducible assumption) | (with_reducible refine Below.setCell ?_ ?_ _) | (with_reducible refine Below.alloc ?_ ?_ _) | (with_reducible refine below_drewN ?_ _) | (with_reducible refine Below.drew ?_) | (with_reducible exact Nat.le_refl _) | omega | (simp; done) | (simp; omega)))
        have hw1dab : Below w1.heap.size w1 w1dab := hw1da.trans (bw1dab.mono hw1da.size)
        have lw1dab : RB w1dab (.slice (some ⟨w1da.heap.size, 0, none⟩) 1 1) [x.f] := by rw [ew1dab]; exact rb_lit w1da x.f
        have sw1dab := rw1da.below bw1dab
        refine op_val (d := 15) (v := .slice (some ⟨w1da.heap.size, 0, none⟩) 1 1) (w' := w1da.alloc (.cells #[.int .i64 x.f.x0, .int .i64 x.f.y0, .int .i64 x.f.x1, .int .i64 x.f.y1] 34)) rfl rfl rfl (by go_simp; try rfl) ?_
        simp only [Act.put, List.setIfInBounds_toArray, List.set_cons_zero, List.set_cons_succ]
        rw [← ew1dab]
        obtain ⟨gw1dab, egw1dab⟩ : ∃ g, g = w1da.heap.size := ⟨_, rfl⟩
        rw [← egw1dab] at lw1dab ⊢
        clear egw1dab ew1dab
        refine ⟨KS.of hw1dab, ?_⟩
        refine wpAnyH_all (rs := [5, 6]) (by kernel_rfl) (by simp) ?_
        intro iz hi
        rcases (by simpa using hi : iz = 5 ∨ iz = 6) with rfl | rfl
        · clear hi
          refine op_call (d := 16) rfl rfl rfl (by go_simp) ((HSW.out w1dab _ _ sw1dab lw1dab).mono ?_)
          rintro e w1dabc ⟨za, zn, zc, rfl, rw1dabc, bw1dabc⟩
          have hw1dabc : Below w1.heap.size w1 w1dabc := hw1dab.trans (bw1dabc.mono hw1dab.size)
          have sw1dabc := sw1dab.below bw1dabc
          have uw1dabc := lw1dab.below bw1dabc
          have cw1dabc := BC.low rw1dabc hw1dab.size
          refine ⟨_, rfl, KS.of hw1dabc, ?_⟩
          simp only [Act.put, List.setIfInBounds_toArray, List.set_cons_zero, List.set_cons_succ]
          refine wpAnyH_all (rs := [6]) (by kernel_rfl) (by simp) ?_
          intro iz hi
          obtain rfl : iz = 6 := by simpa using hi
          clear hi
          obtain ⟨w1dabck, ew1dabck⟩ : ∃ y, y = w1dabc.alloc (.cells #[.slice none 0 0] 66) := ⟨_, rfl⟩
          have bw1dabck : Below w1dabc.heap.size w1dabc w1dabck := by rw [ew1dabck]; (repeat' (first | (with_reducible exact Below.refl _ _) | (with_reducible assumption) | (with_reducible refine Below.setCell ?_ ?_ _) | (with_reducible refine Below.alloc ?_ ?_ _) | (with_reducible refine below_drewN ?_ _) | (with_reducible refine Below.drew ?_) | (with_reducible exact Nat.le_refl _) | omega | (simp; done) | (simp; omega)))
          have hw1dabck : Below w1.heap.size w1 w1dabck := hw1dabc.trans (bw1dabck.mono hw1dabc.size)
          have kw1dabck : w1dabck.heap[w1dabc.heap.size]? = some (.cells #[.slice none 0 0] 66) := by rw [ew1dabck]; exact heap_alloc_new _ _
          have mw1dabck : w1.heap.size ≤ w1dabc.heap.size := hw1dabc.size
          have sw1dabck := sw1dabc.below bw1dabck
          have uw1dabck := uw1dabc.below bw1dabck
          have nw1dabck := cw1dabc.below bw1dabck
          refine op_val (d := 8) (v := .pointer (some ⟨w1dabc.heap.size, 0, none⟩)) (w' := w1dabc.alloc (.cells #[.slice none 0 0] 66)) rfl rfl rfl (by go_simp; try rfl) ?_
          simp only [Act.put, List.setIfInBounds_toArray, List.set_cons_zero, List.set_cons_succ]
          rw [← ew1dabck]
          obtain ⟨Kw1dabck, eKw1dabck⟩ : ∃ g, g = w1dabc.heap.size := ⟨_, rfl⟩
          rw [← eKw1dabck] at kw1dabck mw1dabck ⊢
          clear eKw1dabck ew1dabck
          refine ⟨KS.of hw1dabck, ?_⟩
          refine wpAnyH_all (rs := [7]) (by kernel_rfl) (by simp) ?_
          intro iz hi
          obtain rfl : iz = 7 := by simpa using hi
          clear hi
          have t0 := cellOf kw1dabck 0 rfl
          have f0 := frozOf kw1dabck 0
          have tl := ltOf kw1dabck
          obtain ⟨W2, hW2, fa, fb, fc⟩ := cnt_made hw1dabck kw1dabck nw1dabck mw1dabck
          refine op_skipN (w' := w1dabck.setCell ⟨Kw1dabck, 0, none⟩ (.slice za zn zc)) rfl rfl (by go_simp; try rfl) ?_
          rw [← hW2]
          refine ⟨KS.of fa, wpAnyH_done (by kernel_rfl) (NoPanic.normal ?_) _⟩
          go_wp2_with (fail)
          go_meet
          exact ⟨Kw1dabck, za, zn, zc, rfl, fa, fb, fc⟩
        · clear hi
          obtain ⟨w1dabk, ew1dabk⟩ : ∃ y, y = w1dab.alloc (.cells #[.slice none 0 0] 66) := ⟨_, rfl⟩
          have bw1dabk : Below w1dab.heap.size w1dab w1dabk := by rw [ew1dabk]; (repeat' (first | (with_reducible exact Below.refl _ _) | (with_reducible assumption) | (with_reducible refine Below.setCell ?_ ?_ _) | (with_reducible refine Below.alloc ?_ ?_ _) | (with_reducible refine below_drewN ?_ _) | (with_reducible refine Below.drew ?_) | (with_reducible exact Nat.le_refl _) | omega | (simp; done) | (simp; omega)))
          have hw1dabk : Below w1.heap.size w1 w1dabk := hw1dab.trans (bw1dabk.mono hw1dab.size)
          have kw1dabk : w1dabk.heap[w1dab.heap.size]? = some (.cells #[.slice none 0 0] 66) := by rw [ew1dabk]; exact heap_alloc_new _ _
          have mw1dabk : w1.heap.size ≤ w1dab.heap.size := hw1dab.size
          have sw1dabk := sw1dab.below bw1dabk
          have uw1dabk := lw1dab.below bw1dabk
          refine op_val (d := 8) (v := .pointer (some ⟨w1dab.heap.size, 0, none⟩)) (w' := w1dab.alloc (.cells #[.slice none 0 0] 66)) rfl rfl rfl (by go_simp; try rfl) ?_
          simp only [Act.put, List.setIfInBounds_toArray, List.set_cons_zero, List.set_cons_succ]
          rw [← ew1dabk]
          obtain ⟨Kw1dabk, eKw1dabk⟩ : ∃ g, g = w1dab.heap.size := ⟨_, rfl⟩
          rw [← eKw1dabk] at kw1dabk mw1dabk ⊢
          clear eKw1dabk ew1dabk
          refine ⟨KS.of hw1dabk, ?_⟩
          refine wpAnyH_all (rs := [5]) (by kernel_rfl) (by simp) ?_
          intro iz hi
          obtain rfl : iz = 5 := by simpa using hi
          clear hi
          refine op_call (d := 16) rfl rfl rfl (by go_simp) ((HSW.out w1dabk _ _ sw1dabk uw1dabk).mono ?_)
          rintro e w1dabkc ⟨za, zn, zc, rfl, rw1dabkc, bw1dabkc⟩
          have hw1dabkc : Below w1.heap.size w1 w1dabkc := hw1dabk.trans (bw1dabkc.mono hw1dabk.size)
          have sw1dabkc := sw1dabk.below bw1dabkc
          have uw1dabkc := uw1dabk.below bw1dabkc
          have xw1dabkc := (bw1dabkc.block _ (ltOf kw1dabk)).trans kw1dabk
          have cw1dabkc := BC.low rw1dabkc hw1dabk.size
          refine ⟨_, rfl, KS.of hw1dabkc, ?_⟩
          simp only [Act.put, List.setIfInBounds_toArray, List.set_cons_zero, List.set_cons_succ]
          refine wpAnyH_all (rs := [7]) (by kernel_rfl) (by simp) ?_
          intro iz hi
          obtain rfl : iz = 7 := by simpa using hi
          clear hi
          have t0 := cellOf xw1dabkc 0 rfl
          have f0 := frozOf xw1dabkc 0
          have tl := ltOf xw1dabkc
          obtain ⟨W2, hW2, fa, fb, fc⟩ := cnt_made hw1dabkc xw1dabkc cw1dabkc mw1dabk
          refine op_skipN (w' := w1dabkc.setCell ⟨Kw1dabk, 0, none⟩ (.slice za zn zc)) rfl rfl (by go_simp; try rfl) ?_
          rw [← hW2]
          refine ⟨KS.of fa, wpAnyH_done (by kernel_rfl) (NoPanic.normal ?_) _⟩
          go_wp2_with (fail)
          go_meet
          exact ⟨Kw1dabk, za, zn, zc, rfl, fa, fb, fc⟩
      · clear hi
        obtain ⟨w1dak, ew1dak⟩ : ∃ y, y = w1da.alloc (.cells #[.slice none 0 0] 66) := ⟨_, rfl⟩
        have bw1dak : Below w1da.heap.size w1da w1dak := by rw [ew1dak]; (repeat' (first | (with_reducible exact Below.refl _ _) | (with_reducible assumption) | (with_reducible refine Below.setCell ?_ ?_ _) | (with_reducible refine Below.alloc ?_ ?_ _) | (with_reducible refine below_drewN ?_ _) | (with_reducible refine Below.drew ?_) | (with_reducible exact Nat.le_refl _) | omega | (simp; done) | (simp; omega)))
        have hw1dak : Below w1.heap.size w1 w1dak := hw1da.trans (bw1dak.mono hw1da.size)
        have kw1dak : w1dak.heap[w1da.heap.size]? = some (.cells #[.slice none 0 0] 66) := by rw [ew1dak]; exact heap_alloc_new _ _
        have mw1dak : w1.heap.size ≤ w1da.heap.size := hw1da.size
        have sw1dak := rw1da.below bw1dak
        refine op_val (d := 8) (v := .pointer (some ⟨w1da.heap.size, 0, none⟩)) (w' := w1da.alloc (.cells #[.slice none 0 0] 66)) rfl rfl rfl (by go_simp; try rfl) ?_
        simp only [Act.put, List.setIfInBounds_toArray, List.set_cons_zero, List.set_cons_succ]
        rw [← ew1dak]
        obtain ⟨Kw1dak, eKw1dak⟩ : ∃ g, g = w1da.heap.size := ⟨_, rfl⟩
        rw [← eKw1dak] at kw1dak mw1dak ⊢
        clear eKw1dak ew1dak
        refine ⟨KS.of hw1dak, ?_⟩
        refine wpAnyH_all (rs := [4]) (by kernel_rfl) (by simp) ?_
        intro iz hi
        obtain rfl : iz = 4 := by simpa using hi
        clear hi
        obtain ⟨w1dakb, ew1dakb⟩ : ∃ y, y = w1dak.alloc (.cells #[.int .i64 x.f.x0, .int .i64 x.f.y0, .int .i64 x.f.x1, .int .i64 x.f.y1] 34) := ⟨_, rfl⟩
        have bw1dakb : Below w1dak.heap.size w1dak w1dakb := by rw [ew1dakb]; (repeat' (first | (with_reducible exact Below.refl _ _) | (with_reducible assumption) | (with_reducible refine Below.setCell ?_ ?_ _) | (with_reducible refine Below.alloc ?_ ?_ _) | (with_reducible refine below_drewN ?_ _) | (with_reducible refine Below.drew ?_) | (with_reducible exact Nat.le_refl _) | omega | (simp; done) | (simp; omega)))
        have hw1dakb : Below w1.heap.size w1 w1dakb := hw1dak.trans (bw1dakb.mono hw1dak.size)
        have lw1dakb : RB w1dakb (.slice (some ⟨w1dak.heap.size, 0, none⟩) 1 1) [x.f] := by rw [ew1dakb]; exact rb_lit w1dak x.f
        have sw1dakb := sw1dak.below bw1dakb
        have xw1dakb := (bw1dakb.block _ (ltOf kw1dak)).trans kw1dak
        refine op_val (d := 15) (v := .slice (some ⟨w1dak.heap.size, 0, none⟩) 1 1) (w' := w1dak.alloc (.cells #[.int .i64 x.f.x0, .int .i64 x.f.y0, .int .i64 x.f.x1, .int .i64 x.f.y1] 34)) rfl rfl rfl (by go_simp; try rfl) ?_
        simp only [Act.put, List.setIfInBounds_toArray, List.set_cons_zero, List.set_cons_succ]
        rw [← ew1dakb]
        obtain ⟨gw1dakb, egw1dakb⟩ : ∃ g, g = w1dak.heap.size := ⟨_, rfl⟩
        rw [← egw1dakb] at lw1dakb ⊢
        clear egw1dakb ew1dakb
        refine ⟨KS.of hw1dakb, ?_⟩
        refine wpAnyH_all (rs := [5]) (by kernel_rfl) (by simp) ?_
        intro iz hi
        obtain rfl : iz = 5 := by simpa using hi
        clear hi
        refine op_call (d := 16) rfl rfl rfl (by go_simp) ((HSW.out w1dakb _ _ sw1dakb lw1dakb).mono ?_)
        rintro e w1dakbc ⟨za, zn, zc, rfl, rw1dakbc, bw1dakbc⟩
        have hw1dakbc : Below w1.heap.size w1 w1dakbc := hw1dakb.trans (bw1dakbc.mono hw1dakb.size)
        have sw1dakbc := sw1dakb.below bw1dakbc
        have uw1dakbc := lw1dakb.below bw1dakbc
        have xw1dakbc := (bw1dakbc.block _ (ltOf xw1dakb)).trans xw1dakb
        have cw1dakbc := BC.low rw1dakbc hw1dakb.size
        refine ⟨_, rfl, KS.of hw1dakbc, ?_⟩
        simp only [Act.put, List.setIfInBounds_toArray, List.set_cons_zero, List.set_cons_succ]
        refine wpAnyH_all (rs := [7]) (by kernel_rfl) (by simp) ?_
        intro iz hi
        obtain rfl : iz = 7 := by simpa using hi
        clear hi
        have t0 := cellOf xw1dakbc 0 rfl
        have f0 := frozOf xw1dakbc 0
        have tl := ltOf xw1dakbc
        obtain ⟨W2, hW2, fa, fb, fc⟩ := cnt_made hw1dakbc xw1dakbc cw1dakbc mw1dak
        refine op_skipN (w' := w1dakbc.setCell ⟨Kw1dak, 0, none⟩ (.slice za zn zc)) rfl rfl (by go_simp; try rfl) ?_
        rw [← hW2]
        refine ⟨KS.of fa, wpAnyH_done (by kernel_rfl) (NoPanic.normal ?_) _⟩
        go_wp2_with (fail)
        go_meet
        exact ⟨Kw1dak, za, zn, zc, rfl, fa, fb, fc⟩
    · clear hi
      obtain ⟨w1db, ew1db⟩ : ∃ y, y = w1.drew.alloc (.cells #[.int .i64 x.f.x0, .int .i64 x.f.y0, .int .i64 x.f.x1, .int .i64 x.f.y1] 34) := ⟨_, rfl⟩
      have bw1db : Below w1.drew.heap.size w1.drew w1db := by rw [ew1db]; (repeat' (first | (with_reducible exact Below.refl _ _) | (with_reducible assumption) | (with_reducible refine Below.setCell ?_ ?_ _) | (with_reducible refine Below.alloc ?_ ?_ _) | (with_reducible refine below_drewN ?_ _) | (with_reducible refine Below.drew ?_) | (with_reducible exact Nat.le_refl _) | omega | (simp; done) | (simp; omega)))
      have hw1db : Below w1.heap.size w1 w1db := hy0.trans (bw1db.mono hy0.size)
      have lw1db : RB w1db (.slice (some ⟨w1.drew.heap.size, 0, none⟩) 1 1) [x.f] := by rw [ew1db]; exact rb_lit w1.drew x.f
      refine op_val (d := 15) (v := .slice (some ⟨w1.drew.heap.size, 0, none⟩) 1 1) (w' := w1.drew.alloc (.cells #[.int .i64 x.f.x0, .int .i64 x.f.y0, .int .i64 x.f.x1, .int .i64 x.f.y1] 34)) rfl rfl rfl (by go_simp; try rfl) ?_
      simp only [Act.put, List.setIfInBounds_toArray, List.set_cons_zero, List.set_cons_succ]
      rw [← ew1db]
      obtain ⟨gw1db, egw1db⟩ : ∃ g, g = w1.drew.heap.size := ⟨_, rfl⟩
      rw [← egw1db] at lw1db ⊢
      clear egw1db ew1db
      refine ⟨KS.of hw1db, ?_⟩
      refine wpAnyH_all (rs := [1, 6]) (by kernel_rfl) (by simp) ?_
      intro iz hi
      rcases (by simpa using hi : iz = 1 ∨ iz = 6) with rfl | rfl
      · clear hi
        refine op_call (d := 12) rfl rfl rfl (by go_simp) ((HSB.out w1db hw1db).mono ?_)
        rintro e w1dba ⟨ya, yc, rfl, rw1dba, bw1dba⟩
        have hw1dba : Below w1.heap.size w1 w1dba := hw1db.trans (bw1dba.mono hw1db.size)
        have uw1dba := lw1db.below bw1dba
        refine ⟨_, rfl, KS.of hw1dba, ?_⟩
        simp only [Act.put, List.setIfInBounds_toArray, List.set_cons_zero, List.set_cons_succ]
        refine wpAnyH_all (rs := [5, 6]) (by kernel_rfl) (by simp) ?_
        intro iz hi
        rcases (by simpa using hi : iz = 5 ∨ iz = 6) with rfl | rfl
        · clear hi
          refine op_call (d := 16) rfl rfl rfl (by go_simp) ((HSW.out w1dba _ _ rw1dba uw1dba).mono ?_)
          rintro e w1dbac ⟨za, zn, zc, rfl, rw1dbac, bw1dbac⟩
          have hw1dbac : Below w1.heap.size w1 w1dbac := hw1dba.trans (bw1dbac.mono hw1dba.size)
          have sw1dbac := rw1dba.below bw1dbac
          have uw1dbac := uw1dba.below bw1dbac
          have cw1dbac := BC.low rw1dbac hw1dba.size
          refine ⟨_, rfl, KS.of hw1dbac, ?_⟩
          simp only [Act.put, List.setIfInBounds_toArray, List.set_cons_zero, List.set_cons_succ]
          refine wpAnyH_all (rs := [6]) (by kernel_rfl) (by simp) ?_
          intro iz hi
          obtain rfl : iz = 6 := by simpa using hi
          clear hi
          obtain ⟨w1dback, ew1dback⟩ : ∃ y, y = w1dbac.alloc (.cells #[.slice none 0 0] 66) := ⟨_, rfl⟩
          have bw1dback : Below w1dbac.heap.size w1dbac w1dback := by rw [ew1dback]; (repeat' (first | (with_reducible exact Below.refl _ _) | (with_reducible assumption) | (with_reducible refine Below.setCell ?_ ?_ _) | (with_reducible refine Below.alloc ?_ ?_ _) | (with_reducible refine below_drewN ?_ _) | (with_reducible refine Below.drew ?_) | (with_reducible exact Nat.le_refl _) | omega | (simp; done) | (simp; omega)))
          have hw1dback : Below w1.heap.size w1 w1dback := hw1dbac.trans (bw1dback.mono hw1dbac.size)
          have kw1dback : w1dback.heap[w1dbac.heap.size]? = some (.cells #[.slice none 0 0] 66) := by rw [ew1dback]; exact heap_alloc_new _ _
          have mw1dback : w1.heap.size ≤ w1dbac.heap.size := hw1dbac.size
          have sw1dback := sw1dbac.below bw1dback
          have uw1dback := uw1dbac.below bw1dback
          have nw1dback := cw1dbac.below bw1dback
          refine op_val (d := 8) (v := .pointer (some ⟨w1dbac.heap.size, 0, none⟩)) (w' := w1dbac.alloc (.cells #[.slice none 0 0] 66)) rfl rfl rfl (by go_simp; try rfl) ?_
          simp only [Act.put, List.setIfInBounds_toArray, List.set_cons_zero, List.set_cons_succ]
          rw [← ew1dback]
          obtain ⟨Kw1dback, eKw1dback⟩ : ∃ g, g = w1dbac.heap.size := ⟨_, rfl⟩
          rw [← eKw1dback] at kw1dback mw1dback ⊢
          clear eKw1dback ew1dback
          refine ⟨KS.of hw1dback, ?_⟩
          refine wpAnyH_all (rs := [7]) (by kernel_rfl) (by simp) ?_
          intro iz hi
          obtain rfl : iz = 7 := by simpa using hi
          clear hi
          have t0 := cellOf kw1dback 0 rfl
          have f0 := frozOf kw1dback 0
          have tl := ltOf kw1dback
          obtain ⟨W2, hW2, fa, fb, fc⟩ := cnt_made hw1dback kw1dback nw1dback mw1dback
          refine op_skipN (w' := w1dback.setCell ⟨Kw1dback, 0, none⟩ (.slice za zn zc)) rfl rfl (by go_simp; try rfl) ?_
          rw [← hW2]
          refine ⟨KS.of fa, wpAnyH_done (by kernel_rfl) (NoPanic.normal ?_) _⟩
          go_wp2_with (fail)
          go_meet
          exact ⟨Kw1dback, za, zn, zc, rfl, fa, fb, fc⟩
        · clear hi
          obtain ⟨w1dbak, ew1dbak⟩ : ∃ y, y = w1dba.alloc (.cells #[.slice none 0 0] 66) := ⟨_, rfl⟩
          have bw1dbak : Below w1dba.heap.size w1dba w1dbak := by rw [ew1dbak]; (repeat' (first | (with_reducible exact Below.refl _ _) | (with_reducible assumption) | (with_reducible refine Below.setCell ?_ ?_ _) | (with_reducible refine Below.alloc ?_ ?_ _) | (with_reducible refine below_drewN ?_ _) | (with_reducible refine Below.drew ?_) | (with_reducible exact Nat.le_refl _) | omega | (simp; done) | (simp; omega)))
          have hw1dbak : Below w1.heap.size w1 w1dbak := hw1dba.trans (bw1dbak.mono hw1dba.size)
          have kw1dbak : w1dbak.heap[w1dba.heap.size]? = some (.cells #[.slice none 0 0] 66) := by rw [ew1dbak]; exact heap_alloc_new _ _
          have mw1dbak : w1.heap.size ≤ w1dba.heap.size := hw1dba.size
          have sw1dbak := rw1dba.below bw1dbak
          have uw1dbak := uw1dba.below bw1dbak
          refine op_val (d := 8) (v := .pointer (some ⟨w1dba.heap.size, 0, none⟩)) (w' := w1dba.alloc (.cells #[.slice none 0 0] 66)) rfl rfl rfl (by go_simp; try rfl) ?_
          simp only [Act.put, List.setIfInBounds_toArray, List.set_cons_zero, List.set_cons_succ]
          rw [← ew1dbak]
          obtain ⟨Kw1dbak, eKw1dbak⟩ : ∃ g, g = w1dba.heap.size := ⟨_, rfl⟩
          rw [← eKw1dbak] at kw1dbak mw1dbak ⊢
          clear eKw1dbak ew1dbak
          refine ⟨KS.of hw1dbak, ?_⟩
          refine wpAnyH_all (rs := [5]) (by kernel_rfl) (by simp) ?_
          intro iz hi
          obtain rfl : iz = 5 := by simpa using hi
          clear hi
          refine op_call (d := 16) rfl rfl rfl (by go_simp) ((HSW.out w1dbak _ _ sw1dbak uw1dbak).mono ?_)
          rintro e w1dbakc ⟨za, zn, zc, rfl, rw1dbakc, bw1dbakc⟩
          have hw1dbakc : Below w1.heap.size w1 w1dbakc := hw1dbak.trans (bw1dbakc.mono hw1dbak.size)
          have sw1dbakc := sw1dbak.below bw1dbakc
          have uw1dbakc := uw1dbak.below bw1dbakc
          have xw1dbakc := (bw1dbakc.block _ (ltOf kw1dbak)).trans kw1dbak
          have cw1dbakc := BC.low rw1dbakc hw1dbak.size
          refine ⟨_, rfl, KS.of hw1dbakc, ?_⟩
          simp only [Act.put, List.setIfInBounds_toArray, List.set_cons_zero, List.set_cons_succ]
          refine wpAnyH_all (rs := [7]) (by kernel_rfl) (by simp) ?_
          intro iz hi
          obtain rfl : iz = 7 := by simpa using hi
          clear hi
          have t0 := cellOf xw1dbakc 0 rfl
          have f0 := frozOf xw1dbakc 0
          have tl := ltOf xw1dbakc
          obtain ⟨W2, hW2, fa, fb, fc⟩ := cnt_made hw1dbakc xw1dbakc cw1dbakc mw1dbak
          refine op_skipN (w' := w1dbakc.setCell ⟨Kw1dbak, 0, none⟩ (.slice za zn zc)) rfl rfl (by go_simp; try rfl) ?_
          rw [← hW2]
          refine ⟨KS.of fa, wpAnyH_done (by kernel_rfl) (NoPanic.normal ?_) _⟩
          go_wp2_with (fail)
          go_meet
          exact ⟨Kw1dbak, za, zn, zc, rfl, fa, fb, fc⟩
      · clear hi
        obtain ⟨w1dbk, ew1dbk⟩ : ∃ y, y = w1db.alloc (.cells #[.slice none 0 0] 66) := ⟨_, rfl⟩
        have bw1dbk : Below w1db.heap.size w1db w1dbk := by rw [ew1dbk]; (repeat' (first | (with_reducible exact Below.refl _ _) | (with_reducible assumption) | (with_reducible refine Below.setCell ?_ ?_ _) | (with_reducible refine Below.alloc ?_ ?_ _) | (with_reducible refine below_drewN ?_ _) | (with_reducible refine Below.drew ?_) | (with_reducible exact Nat.le_refl _) | omega | (simp; done) | (simp; omega)))
        have hw1dbk : Below w1.heap.size w1 w1dbk := hw1db.trans (bw1dbk.mono hw1db.size)
        have kw1dbk : w1dbk.heap[w1db.heap.size]? = some (.cells #[.slice none 0 0] 66) := by rw [ew1dbk]; exact heap_alloc_new _ _
        have mw1dbk : w1.heap.size ≤ w1db.heap.size := hw1db.size
        have uw1dbk := lw1db.below bw1dbk
        refine op_val (d := 8) (v := .pointer (some ⟨w1db.heap.size, 0, none⟩)) (w' := w1db.alloc (.cells #[.slice none 0 0] 66)) rfl rfl rfl (by go_simp; try rfl) ?_
        simp only [Act.put, List.setIfInBounds_toArray, List.set_cons_zero, List.set_cons_succ]
        rw [← ew1dbk]
        obtain ⟨Kw1dbk, eKw1dbk⟩ : ∃ g, g = w1db.heap.size := ⟨_, rfl⟩
        rw [← eKw1dbk] at kw1dbk mw1dbk ⊢
        clear eKw1dbk ew1dbk
        refine ⟨KS.of hw1dbk, ?_⟩
        refine wpAnyH_all (rs := [1]) (by kernel_rfl) (by simp) ?_
        intro iz hi
        obtain rfl : iz = 1 := by simpa using hi
        clear hi
        refine op_call (d := 12) rfl rfl rfl (by go_simp) ((HSB.out w1dbk hw1dbk).mono ?_)
        rintro e w1dbka ⟨ya, yc, rfl, rw1dbka, bw1dbka⟩
        have hw1dbka : Below w1.heap.size w1 w1dbka := hw1dbk.trans (bw1dbka.mono hw1dbk.size)
        have uw1dbka := uw1dbk.below bw1dbka
        have xw1dbka := (bw1dbka.block _ (ltOf kw1dbk)).trans kw1dbk
        refine ⟨_, rfl, KS.of hw1dbka, ?_⟩
        simp only [Act.put, List.setIfInBounds_toArray, List.set_cons_zero, List.set_cons_succ]
        refine wpAnyH_all (rs := [5]) (by kernel_rfl) (by simp) ?_
        intro iz hi
        obtain rfl : iz = 5 := by simpa using hi
        clear hi
        refine op_call (d := 16) rfl rfl rfl (by go_simp) ((HSW.out w1dbka _ _ rw1dbka uw1dbka).mono ?_)
        rintro e w1dbkac ⟨za, zn, zc, rfl, rw1dbkac, bw1dbkac⟩
        have hw1dbkac : Below w1.heap.size w1 w1dbkac := hw1dbka.trans (bw1dbkac.mono hw1dbka.size)
        have sw1dbkac := rw1dbka.below bw1dbkac
        have uw1dbkac := uw1dbka.below bw1dbkac
        have xw1dbkac := (bw1dbkac.block _ (ltOf xw1dbka)).trans xw1dbka
        have cw1dbkac := BC.low rw1dbkac hw1dbka.size
        refine ⟨_, rfl, KS.of hw1dbkac, ?_⟩
        simp only [Act.put, List.setIfInBounds_toArray, List.set_cons_zero, List.set_cons_succ]
        refine wpAnyH_all (rs := [7]) (by kernel_rfl) (by simp) ?_
        intro iz hi
        obtain rfl : iz = 7 := by simpa using hi
        clear hi
        have t0 := cellOf xw1dbkac 0 rfl
        have f0 := frozOf xw1dbkac 0
        have tl := ltOf xw1dbkac
        obtain ⟨W2, hW2, fa, fb, fc⟩ := cnt_made hw1dbkac xw1dbkac cw1dbkac mw1dbk
        refine op_skipN (w' := w1dbkac.setCell ⟨Kw1dbk, 0, none⟩ (.slice za zn zc)) rfl rfl (by go_simp; try rfl) ?_
        rw [← hW2]
        refine ⟨KS.of fa, wpAnyH_done (by kernel_rfl) (NoPanic.normal ?_) _⟩
        go_wp2_with (fail)
        go_meet
        exact ⟨Kw1dbk, za, zn, zc, rfl, fa, fb, fc⟩
    · clear hi
      obtain ⟨w1dk, ew1dk⟩ : ∃ y, y = w1.drew.alloc (.cells #[.slice none 0 0] 66) := ⟨_, rfl⟩
      have bw1dk : Below w1.drew.heap.size w1.drew w1dk := by rw [ew1dk]; (repeat' (first | (with_reducible exact Below.refl _ _) | (with_reducible assumption) | (with_reducible refine Below.setCell ?_ ?_ _) | (with_reducible refine Below.alloc ?_ ?_ _) | (with_reducible refine below_drewN ?_ _) | (with_reducible refine Below.drew ?_) | (with_reducible exact Nat.le_refl _) | omega | (simp; done) | (simp; omega)))
      have hw1dk : Below w1.heap.size w1 w1dk := hy0.trans (bw1dk.mono hy0.size)
      have kw1dk : w1dk.heap[w1.drew.heap.size]? = some (.cells #[.slice none 0 0] 66) := by rw [ew1dk]; exact heap_alloc_new _ _
      have mw1dk : w1.heap.size ≤ w1.drew.heap.size := hy0.size
      refine op_val (d := 8) (v := .pointer (some ⟨w1.drew.heap.size, 0, none⟩)) (w' := w1.drew.alloc (.cells #[.slice none 0 0] 66)) rfl rfl rfl (by go_simp; try rfl) ?_
      simp only [Act.put, List.setIfInBounds_toArray, List.set_cons_zero, List.set_cons_succ]
      rw [← ew1dk]
      obtain ⟨Kw1dk, eKw1dk⟩ : ∃ g, g = w1.drew.heap.size := ⟨_, rfl⟩
      rw [← eKw1dk] at kw1dk mw1dk ⊢
      clear eKw1dk ew1dk
      refine ⟨KS.of hw1dk, ?_⟩
      refine wpAnyH_all (rs := [1, 4]) (by kernel_rfl) (by simp) ?_
      intro iz hi
      rcases (by simpa using hi : iz = 1 ∨ iz = 4) with rfl | rfl
      · clear hi
        refine op_call (d := 12) rfl rfl rfl (by go_simp) ((HSB.out w1dk hw1dk).mono ?_)
        rintro e w1dka ⟨ya, yc, rfl, rw1dka, bw1dka⟩
        have hw1dka : Below w1.heap.size w1 w1dka := hw1dk.trans (bw1dka.mono hw1dk.size)
        have xw1dka := (bw1dka.block _ (ltOf kw1dk)).trans kw1dk
        refine ⟨_, rfl, KS.of hw1dka, ?_⟩
        simp only [Act.put, List.setIfInBounds_toArray, List.set_cons_zero, List.set_cons_succ]
        refine wpAnyH_all (rs := [4]) (by kernel_rfl) (by simp) ?_
        intro iz hi
        obtain rfl : iz = 4 := by simpa using hi
        clear hi
        obtain ⟨w1dkab, ew1dkab⟩ : ∃ y, y = w1dka.alloc (.cells #[.int .i64 x.f.x0, .int .i64 x.f.y0, .int .i64 x.f.x1, .int .i64 x.f.y1] 34) := ⟨_, rfl⟩
        have bw1dkab : Below w1dka.heap.size w1dka w1dkab := by rw [ew1dkab]; (repeat' (first | (with_reducible exact Below.refl _ _) | (with_reducible assumption) | (with_reducible refine Below.setCell ?_ ?_ _) | (with_reducible refine Below.alloc ?_ ?_ _) | (with_reducible refine below_drewN ?_ _) | (with_reducible refine Below.drew ?_) | (with_reducible exact Nat.le_refl _) | omega | (simp; done) | (simp; omega)))
        have hw1dkab : Below w1.heap.size w1 w1dkab := hw1dka.trans (bw1dkab.mono hw1dka.size)
        have lw1dkab : RB w1dkab (.slice (some ⟨w1dka.heap.size, 0, none⟩) 1 1) [x.f] := by rw [ew1dkab]; exact rb_lit w1dka x.f
        have sw1dkab := rw1dka.below bw1dkab
        have xw1dkab := (bw1dkab.block _ (ltOf xw1dka)).trans xw1dka
        refine op_val (d := 15) (v := .slice (some ⟨w1dka.heap.size, 0, none⟩) 1 1) (w' := w1dka.alloc (.cells #[.int .i64 x.f.x0, .int .i64 x.f.y0, .int .i64 x.f.x1, .int .i64 x.f.y1] 34)) rfl rfl rfl (by go_simp; try rfl) ?_
        simp only [Act.put, List.setIfInBounds_toArray, List.set_cons_zero, List.set_cons_succ]
        rw [← ew1dkab]
        obtain ⟨gw1dkab, egw1dkab⟩ : ∃ g, g = w1dka.heap.size := ⟨_, rfl⟩
        rw [← egw1dkab] at lw1dkab ⊢
        clear egw1dkab ew1dkab
        refine ⟨KS.of hw1dkab, ?_⟩
        refine wpAnyH_all (rs := [5]) (by kernel_rfl) (by simp) ?_
        intro iz hi
        obtain rfl : iz = 5 := by simpa using hi
        clear hi
        refine op_call (d := 16) rfl rfl rfl (by go_simp) ((HSW.out w1dkab _ _ sw1dkab lw1dkab).mono ?_)
        rintro e w1dkabc ⟨za, zn, zc, rfl, rw1dkabc, bw1dkabc⟩
        have hw1dkabc : Below w1.heap.size w1 w1dkabc := hw1dkab.trans (bw1dkabc.mono hw1dkab.size)
        have sw1dkabc := sw1dkab.below bw1dkabc
        have uw1dkabc := lw1dkab.below bw1dkabc
        have xw1dkabc := (bw1dkabc.block _ (ltOf xw1dkab)).trans xw1dkab
        have cw1dkabc := BC.low rw1dkabc hw1dkab.size
        refine ⟨_, rfl, KS.of hw1dkabc, ?_⟩
        simp only [Act.put, List.setIfInBounds_toArray, List.set_cons_zero, List.set_cons_succ]
        refine wpAnyH_all (rs := [7]) (by kernel_rfl) (by simp) ?_
        intro iz hi
        obtain rfl : iz = 7 := by simpa using hi
        clear hi
        have t0 := cellOf xw1dkabc 0 rfl
        have f0 := frozOf xw1dkabc 0
        have tl := ltOf xw1dkabc
        obtain ⟨W2, hW2, fa, fb, fc⟩ := cnt_made hw1dkabc xw1dkabc cw1dkabc mw1dk
        refine op_skipN (w' := w1dkabc.setCell ⟨Kw1dk, 0, none⟩ (.slice za zn zc)) rfl rfl (by go_simp; try rfl) ?_
        rw [← hW2]
        refine ⟨KS.of fa, wpAnyH_done (by kernel_rfl) (NoPanic.normal ?_) _⟩
        go_wp2_with (fail)
        go_meet
        exact ⟨Kw1dk, za, zn, zc, rfl, fa, fb, fc⟩
      · clear hi
        obtain ⟨w1dkb, ew1dkb⟩ : ∃ y, y = w1dk.alloc (.cells #[.int .i64 x.f.x0, .int .i64 x.f.y0, .int .i64 x.f.x1, .int .i64 x.f.y1] 34) := ⟨_, rfl⟩
        have bw1dkb : Below w1dk.heap.size w1dk w1dkb := by rw [ew1dkb]; (repeat' (first | (with_reducible exact Below.refl _ _) | (with_reducible assumption) | (with_reducible refine Below.setCell ?_ ?_ _) | (with_reducible refine Below.alloc ?_ ?_ _) | (with_reducible refine below_drewN ?_ _) | (with_reducible refine Below.drew ?_) | (with_reducible exact Nat.le_refl _) | omega | (simp; done) | (simp; omega)))
        have hw1dkb : Below w1.heap.size w1 w1dkb := hw1dk.trans (bw1dkb.mono hw1dk.size)
        have lw1dkb : RB w1dkb (.slice (some ⟨w1dk.heap.size, 0, none⟩) 1 1) [x.f] := by rw [ew1dkb]; exact rb_lit w1dk x.f
        have xw1dkb := (bw1dkb.block _ (ltOf kw1dk)).trans kw1dk
        refine op_val (d := 15) (v := .slice (some ⟨w1dk.heap.size, 0, none⟩) 1 1) (w' := w1dk.alloc (.cells #[.int .i64 x.f.x0, .int .i64 x.f.y0, .int .i64 x.f.x1, .int .i64 x.f.y1] 34)) rfl rfl rfl (by go_simp; try rfl) ?_
        simp only [Act.put, List.setIfInBounds_toArray, List.set_cons_zero, List.set_cons_succ]
        rw [← ew1dkb]
        obtain ⟨gw1dkb, egw1dkb⟩ : ∃ g, g = w1dk.heap.size := ⟨_, rfl⟩
        rw [← egw1dkb] at lw1dkb ⊢
        clear egw1dkb ew1dkb
        refine ⟨KS.of hw1dkb, ?_⟩
        refine wpAnyH_all (rs := [1]) (by kernel_rfl) (by simp) ?_
        intro iz hi
        obtain rfl : iz = 1 := by simpa using hi
        clear hi
        refine op_call (d := 12) rfl rfl rfl (by go_simp) ((HSB.out w1dkb hw1dkb).mono ?_)
        rintro e w1dkba ⟨ya, yc, rfl, rw1dkba, bw1dkba⟩
        have hw1dkba : Below w1.heap.size w1 w1dkba := hw1dkb.trans (bw1dkba.mono hw1dkb.size)
        have uw1dkba := lw1dkb.below bw1dkba
        have xw1dkba := (bw1dkba.block _ (ltOf xw1dkb)).trans xw1dkb
        refine ⟨_, rfl, KS.of hw1dkba, ?_⟩
        simp only [Act.put, List.setIfInBounds_toArray, List.set_cons_zero, List.set_cons_succ]
        refine wpAnyH_all (rs := [5]) (by kernel_rfl) (by simp) ?_
        intro iz hi
        obtain rfl : iz = 5 := by simpa using hi
        clear hi
        refine op_call (d := 16) rfl rfl rfl (by go_simp) ((HSW.out w1dkba _ _ rw1dkba uw1dkba).mono ?_)
        rintro e w1dkbac ⟨za, zn, zc, rfl, rw1dkbac, bw1dkbac⟩
        have hw1dkbac : Below w1.heap.size w1 w1dkbac := hw1dkba.trans (bw1dkbac.mono hw1dkba.size)
        have sw1dkbac := rw1dkba.below bw1dkbac
        have uw1dkbac := uw1dkba.below bw1dkbac
        have xw1dkbac := (bw1dkbac.block _ (ltOf xw1dkba)).trans xw1dkba
        have cw1dkbac := BC.low rw1dkbac hw1dkba.size
        refine ⟨_, rfl, KS.of hw1dkbac, ?_⟩
        simp only [Act.put, List.setIfInBounds_toArray, List.set_cons_zero, List.set_cons_succ]
        refine wpAnyH_all (rs := [7]) (by kernel_rfl) (by simp) ?_
        intro iz hi
        obtain rfl : iz = 7 := by simpa using hi
        clear hi
        have t0 := cellOf xw1dkbac 0 rfl
        have f0 := frozOf xw1dkbac 0
        have tl := ltOf xw1dkbac
        obtain ⟨W2, hW2, fa, fb, fc⟩ := cnt_made hw1dkbac xw1dkbac cw1dkbac mw1dk
        refine op_skipN (w' := w1dkbac.setCell ⟨Kw1dk, 0, none⟩ (.slice za zn zc)) rfl rfl (by go_simp; try rfl) ?_
        rw [← hW2]
        refine ⟨KS.of fa, wpAnyH_done (by kernel_rfl) (NoPanic.normal ?_) _⟩
        go_wp2_with (fail)
        go_meet
        exact ⟨Kw1dk, za, zn, zc, rfl, fa, fb, fc⟩

  case rest =>
    obtain ⟨K, za, zn, zc, rfl, hR⟩ := hcut
    have HF : Hid (wc.heap[q1]? = some (.cells #[.func (Fn.func 47) #[] #[.pointer (some ⟨k0 + 1 + 1, 0, none⟩)]] 70) ∧ wc.heap[K]? = some (.cells #[.slice za zn zc] 66) ∧ wc.heap[k0]? = some (.cells #[.int .i64 x.f.x0, .int .i64 x.f.y0, .int .i64 x.f.x1, .int .i64 x.f.y1, .int .i64 x.o, .int .i64 x.s, .int .i64 x.r] 36) ∧ wc.heap[k0 + 1]? = some (.cells #[.int .i64 z] 2) ∧ wc.heap[k0 + 1 + 1]? = some (.cells #[.int .i64 x.f.x0, .int .i64 x.f.y0, .int .i64 x.f.x1, .int .i64 x.f.y1, .int .i64 x.o, .int .i64 x.s, .int .i64 x.r] 36) ∧ RB wc (.slice za zn zc) (opOf bothK (boxesH l) [x.f])) := by
      have q := HB1.out.below hR.out.1
      exact ⟨q.at 3 rfl, hR.out.2.1, q.at 0 rfl, q.at 1 rfl, q.at 2 rfl, hR.out.2.2⟩
    have HBW : Hid (Below w.heap.size w wc) := (HB1.out.below hR.out.1).bl
    clear hR p0 p1 p2 p3 p4 p5 p6 pl
    go_wp2
    go_returns
    exact ⟨q1, K, k0, k0 + 1, k0 + 1 + 1, _, za, zn, zc, rfl, HF.out, HBW.out⟩

end Go.Proofs.Ytmpbcdolikafpaa
