/- Proved here: DoseError of the model: weF, dsV. (And ahead of it: Proved here: a number between two others, of the model (l4In).) -/
import Derived.Test.YtmdijanohjkeeaaKept
import Derived.Test.YtmdijanohjkeeaaSeM
import Derived.Test.YtmdijanohjkeeaaDmS
import Derived.Test.YtmdijanohjkeeaaSeS
namespace Go.Proofs.Ytmdijanohjkeeaa
open Go.RowKit
set_option linter.unusedVariables false
set_option linter.unusedSimpArgs false

set_option maxHeartbeats 800000 in
theorem spec_in10 (n a b : Int) (w : World) : Calls Try.prog 19 #[.int .i64 n, .int .i64 a, .int .i64 b] w fun e w' => e = .returned (.bool (decide (a ≤ n ∧ n ≤ b))) ∧ w' = w := by
  obtain ⟨r, hr⟩ : ∃ r, r = decide (a ≤ n ∧ n ≤ b) := ⟨_, rfl⟩
  rw [← hr]
  have H : Hid ((¬ a ≤ n → r = false) ∧ (a ≤ n → n ≤ b → r = true) ∧ (a ≤ n → ¬ n ≤ b → r = false)) := by
    unfold Hid; rw [hr]
    exact ⟨fun h => by simp [h], fun h1 h2 => by simp [h1, h2], fun h1 h2 => by simp [h1, h2]⟩
  clear hr
  by_cases h1 : a ≤ n
  · by_cases h2 : n ≤ b
    · obtain rfl := H.out.2.1 h1 h2
      go_enter Try.func19, Try.ntmps19
      go_wp2
      go_returns
      exact ⟨rfl, rfl⟩
    · obtain rfl := H.out.2.2 h1 h2
      go_enter Try.func19, Try.ntmps19
      go_wp2
      go_returns
      exact ⟨rfl, rfl⟩
  · obtain rfl := H.out.1 h1
    go_enter Try.func19, Try.ntmps19
    go_wp2
    go_returns
    exact ⟨rfl, rfl⟩

end Go.Proofs.Ytmdijanohjkeeaa

namespace Go.Proofs.Ytmdijanohjkeeaa
open Go.RowKit
set_option linter.unusedVariables false
set_option linter.unusedSimpArgs false

/-- What DoseError tells beside its code. -/
def dsE (l : List Sh) (x : Wt) (z : Int) : Int := erA l x.f (spV (mapG l x.f) (htN x.f) (wdN x.f) x.r.toNat x.o x.s) z (wdN x.f) (htN x.f)
def dsV (l : List Sh) (x : Wt) (z : Int) : Int := if weF l x z = 0 then dsE l x z else 0
/-- The writer and the answer's place lie as they were laid. -/
structure FE (w wr : World) (x : Wt) : Prop where
  b : wr.heap[w.heap.size]? = some (.cells #[.int .i64 x.f.x0, .int .i64 x.f.y0, .int .i64 x.f.x1, .int .i64 x.f.y1, .int .i64 x.o, .int .i64 x.s, .int .i64 x.r] 35)
  r : wr.heap[w.heap.size + 1]? = some (.cells #[.int .i64 0, .int .i64 0] 29)
  bl : Below w.heap.size w wr
  sz : w.heap.size + 2 ≤ wr.heap.size
theorem FE.next {w wr W : World} {a : Wt} (h : FE w wr a) (hb : Below wr.heap.size wr W) : FE w W a :=
  ⟨(hb.block _ (by have := h.sz; omega)).trans h.b, (hb.block _ (by have := h.sz; omega)).trans h.r, h.bl.trans (hb.mono h.bl.size), Nat.le_trans h.sz hb.size⟩
theorem FE.start (w : World) (x : Wt) : FE w ((w.alloc (.cells #[.int .i64 x.f.x0, .int .i64 x.f.y0, .int .i64 x.f.x1, .int .i64 x.f.y1, .int .i64 x.o, .int .i64 x.s, .int .i64 x.r] 35)).alloc (.cells #[.int .i64 0, .int .i64 0] 29)) x := by
  have h1 := heap_alloc_new (w.alloc (.cells #[.int .i64 x.f.x0, .int .i64 x.f.y0, .int .i64 x.f.x1, .int .i64 x.f.y1, .int .i64 x.o, .int .i64 x.s, .int .i64 x.r] 35)) (.cells #[.int .i64 0, .int .i64 0] 29)
  simp only [World.size_alloc] at h1
  exact ⟨(Below.heap_alloc _ _ _ (by simp)).trans (heap_alloc_new w _), h1, by (repeat' (first | (with_reducible exact Below.refl _ _) | (with_reducible assumption) | (with_reducible refine Below.setCell ?_ ?_ _) | (with_reducible refine Below.alloc ?_ ?_ _) | (with_reducible refine below_drewN ?_ _) | (with_reducible refine Below.drew ?_) | (with_reducible exact Nat.le_refl _) | omega | (simp; done) | (simp; omega))), by simp⟩

set_option maxRecDepth 10000 in
set_option maxHeartbeats 8000000 in
theorem spec_ds (l : List Sh) (x : Wt) (z : Int) {w : World} {v : Value} (hn : l.length ≤ 1048576) (h : RG 5 shC w v l) :
    Calls Try.prog 6 #[v, .agg #[.int .i64 x.f.x0, .int .i64 x.f.y0, .int .i64 x.f.x1, .int .i64 x.f.y1, .int .i64 x.o, .int .i64 x.s, .int .i64 x.r], .int .i64 z] w fun e w' => e = .returned (.agg #[.int .i64 (weF l x z), .int .i64 (dsV l x z)]) ∧ Below w.heap.size w w' := by
  obtain ⟨a, c, rfl⟩ := h.form
  obtain ⟨n, hnn⟩ : ∃ n, n = l.length := ⟨_, rfl⟩
  obtain ⟨C, hC⟩ : ∃ C, C = weF l x z := ⟨_, rfl⟩
  obtain ⟨V, hV⟩ : ∃ V, V = dsV l x z := ⟨_, rfl⟩
  obtain ⟨y, hy⟩ : ∃ y, y = wsF l x := ⟨_, rfl⟩
  rw [← hnn] at h ⊢
  have H : Hid (RG 5 shC w (.slice a n c) l ∧ y = wsF l x ∧ C = weF l x z ∧ V = dsV l x z) := ⟨h, hy, hC, hV⟩
  have HSF : Hid (∀ W : World, Below w.heap.size w W → Calls Try.prog 18 #[.slice a n c, .agg #[.int .i64 x.f.x0, .int .i64 x.f.y0, .int .i64 x.f.x1, .int .i64 x.f.y1, .int .i64 x.o, .int .i64 x.s, .int .i64 x.r]] W fun e w' => e = .returned (.int .i64 y) ∧ Below W.heap.size W w') := fun W hW => by rw [hy]; exact spec_wsF l x hn (h.below hW)
  rw [← hC, ← hV]
  clear h hnn hC hV hy hn
  go_enter Try.func6, Try.ntmps6
  go_wp2_with (fail)
  refine (HSF.out _ (by (repeat' (first | (with_reducible exact Below.refl _ _) | (with_reducible assumption) | (with_reducible refine Below.setCell ?_ ?_ _) | (with_reducible refine Below.alloc ?_ ?_ _) | (with_reducible refine below_drewN ?_ _) | (with_reducible refine Below.drew ?_) | (with_reducible exact Nat.le_refl _) | omega | (simp; done) | (simp; omega))))).mono ?_
  rintro e w1 ⟨rfl, hb1⟩
  have HK1 : Hid (FE w w1 x) := (FE.start w x).next hb1
  clear hb1 HSF
  by_cases q0 : y = 0
  case neg =>
    have HE : Hid (C = y ∧ V = 0) := by
      have e : weF l x z = y := by rw [weF, if_neg (by rw [← H.out.2.1]; exact q0), H.out.2.1]
      exact ⟨H.out.2.2.1.trans e, by rw [H.out.2.2.2, dsV, if_neg (by rw [e]; exact q0)]⟩
    obtain ⟨r0, r1, f0, f1, hlt2⟩ := two_fw HK1.out.r
    go_wp2
    refine bodyPost_ret (by simp [results, Try.results6, go_sem, r0, r1, hlt2]; rfl) rfl ⟨?_, ?_⟩
    · rw [HE.out.1, HE.out.2]
    · have hb := HK1.out.bl
      (repeat' (first | (with_reducible exact Below.refl _ _) | (with_reducible assumption) | (with_reducible refine Below.setCell ?_ ?_ _) | (with_reducible refine Below.alloc ?_ ?_ _) | (with_reducible refine below_drewN ?_ _) | (with_reducible refine Below.drew ?_) | (with_reducible exact Nat.le_refl _) | omega | (simp; done) | (simp; omega)))
  have HS0 : Hid (wsF l x = 0) := by unfold Hid; rw [← H.out.2.1]; exact q0
  subst q0
  have HIN : Hid (Calls Try.prog 19 #[.int .i64 z, .int .i64 0, .int .i64 1000000000] w1 fun e w' => e = .returned (.bool (decide (0 ≤ z ∧ z ≤ 1000000000))) ∧ w' = w1) := spec_in10 z 0 1000000000 w1
  go_wp2_with (fail)
  refine HIN.out.mono ?_
  rintro e w2 ⟨rfl, rfl⟩
  clear HIN
  by_cases q1 : 0 ≤ z ∧ z ≤ 1000000000
  case neg =>
    have HE : Hid (C = 3 ∧ V = 0) := by
      have e : weF l x z = 3 := by rw [weF, if_pos HS0.out, if_neg q1]
      exact ⟨H.out.2.2.1.trans e, by rw [H.out.2.2.2, dsV, if_neg (by rw [e]; decide)]⟩
    obtain ⟨r0, r1, f0, f1, hlt2⟩ := two_fw HK1.out.r
    rw [decide_eq_false q1]
    clear q1
    go_wp2
    refine bodyPost_ret (by simp [results, Try.results6, go_sem, r0, r1, hlt2]; rfl) rfl ⟨?_, ?_⟩
    · rw [HE.out.1, HE.out.2]
    · have hb := HK1.out.bl
      (repeat' (first | (with_reducible exact Below.refl _ _) | (with_reducible assumption) | (with_reducible refine Below.setCell ?_ ?_ _) | (with_reducible refine Below.alloc ?_ ?_ _) | (with_reducible refine below_drewN ?_ _) | (with_reducible refine Below.drew ?_) | (with_reducible exact Nat.le_refl _) | omega | (simp; done) | (simp; omega)))
  have HE : Hid (C = 0 ∧ V = dsE l x z) := by
    have e : weF l x z = 0 := by rw [weF, if_pos HS0.out, if_pos q1]
    exact ⟨H.out.2.2.1.trans e, by rw [H.out.2.2.2, dsV, if_pos e]⟩
  have HCL : Hid (Calls Try.prog 20 #[.slice a n c, .agg #[.int .i64 x.f.x0, .int .i64 x.f.y0, .int .i64 x.f.x1, .int .i64 x.f.y1, .int .i64 x.o, .int .i64 x.s, .int .i64 x.r], .int .i64 z] w2 fun e w' => e = .returned (.int .i64 (dsE l x z)) ∧ Below w2.heap.size w2 w') := by
    obtain ⟨g1, g2, g3, g4, g5, g6⟩ := spR_good HS0.out
    have h9 := spec_er l x.f x.o x.s x.r.toNat z g1.1 g1.2 g2 g3 g4 g5 q1 (H.out.1.below HK1.out.bl)
    rw [← g6] at h9
    exact h9
  rw [decide_eq_true q1]
  obtain ⟨p0, p1, p2, p3, p4, p5, p6, pf, pl⟩ := wt_seven HK1.out.b
  clear pf q1
  go_wp2_with (fail)
  refine HCL.out.mono ?_
  rintro e w3 ⟨rfl, hb3⟩
  have HK3 : Hid (FE w w3 x) := HK1.out.next hb3
  obtain ⟨r0, r1, f0, f1, hlt2⟩ := two_fw HK3.out.r
  rw [← HE.out.2]
  clear hb3 HCL HK1 p0 p1 p2 p3 p4 p5 p6 pl
  go_wp2
  refine bodyPost_ret (by simp [results, Try.results6, go_sem, r0, r1, hlt2]; rfl) rfl ⟨?_, ?_⟩
  · rw [HE.out.1]
  · have hb := HK3.out.bl
    (repeat' (first | (with_reducible exact Below.refl _ _) | (with_reducible assumption) | (with_reducible refine Below.setCell ?_ ?_ _) | (with_reducible refine Below.alloc ?_ ?_ _) | (with_reducible refine below_drewN ?_ _) | (with_reducible refine Below.drew ?_) | (with_reducible exact Nat.le_refl _) | omega | (simp; done) | (simp; omega)))

end Go.Proofs.Ytmdijanohjkeeaa
