/- Proved here: EvenDoses of the program, with errorsOf's contract for a premise. -/
import Derived.Test.YtmpbcdolikafpaaSeF
namespace Go.Proofs.Ytmpbcdolikafpaa
open Go.RowKit
set_option linter.unusedVariables false
set_option linter.unusedSimpArgs false

/-- What errorsOf is asked to do. -/
def EoOk (l : List Sh) (x : Wt) (z : Int) : Prop := ∀ (V : World) (v : Value), RG 5 shC V v l → Calls Try.prog 21 #[v, .agg #[.int .i64 x.f.x0, .int .i64 x.f.y0, .int .i64 x.f.x1, .int .i64 x.f.y1, .int .i64 x.o, .int .i64 x.s, .int .i64 x.r], .int .i64 z] V fun e w' => ∃ q1 q2 q3 q4, e = .returned (ecV q1 q2 q3 q4) ∧ Hid (Tells w'.heap.size q1 q2 q3 q4 (fun t => dsE t x z) (bxS l) w') ∧ Below V.heap.size V w'

theorem store_fn4 (a : Addr) (f : FuncId) (p q r s : Nat) (w : World) : (store a (.func (.func f) #[] #[.pointer (some ⟨p, 0, none⟩), .pointer (some ⟨q, 0, none⟩), .pointer (some ⟨r, 0, none⟩), .pointer (some ⟨s, 0, none⟩)]) .plain).run Try.prog w = stored Try.prog w a (.func (.func f) #[] #[.pointer (some ⟨p, 0, none⟩), .pointer (some ⟨q, 0, none⟩), .pointer (some ⟨r, 0, none⟩), .pointer (some ⟨s, 0, none⟩)]) .plain := run_store Try.prog w a _ _ rfl

set_option maxRecDepth 10000 in
set_option maxHeartbeats 12800000 in
theorem impl_ev (l : List Sh) (x : Wt) (z r : Int) (hEO : weF l x z = 0 → EoOk l x z) {w : World} {v : Value} (hn : l.length ≤ 1048576) (h : RG 5 shC w v l) :
    Calls Try.prog 8 #[v, .agg #[.int .i64 x.f.x0, .int .i64 x.f.y0, .int .i64 x.f.x1, .int .i64 x.f.y1, .int .i64 x.o, .int .i64 x.s, .int .i64 x.r], .int .i64 z, .int .i64 r] w fun e w' => ∃ sv ev, e = .returned (.agg #[.int .i64 (evC l x z r), sv, ev]) ∧ OG 48 5 shC w' w.heap.size sv (evL l x z r) ∧ IS w' w.heap.size ev (evE l x z r) ∧ Below w.heap.size w w' := by
  obtain ⟨a, c, rfl⟩ := h.form
  obtain ⟨n, hnn⟩ : ∃ n, n = l.length := ⟨_, rfl⟩
  rw [← hnn] at h ⊢
  have H : Hid (RG 5 shC w (.slice a n c) l ∧ n = l.length ∧ l.length ≤ 1048576) := ⟨h, hnn, hn⟩
  have HEP : Hid (weF l x z = 0 → EoOk l x z) := hEO
  obtain ⟨C, hC⟩ : ∃ C, C = weF l x z := ⟨_, rfl⟩
  obtain ⟨Q, hQ⟩ : ∃ Q, Q = evC l x z r := ⟨_, rfl⟩
  obtain ⟨LF, hLF⟩ : ∃ Q, Q = evL l x z r := ⟨_, rfl⟩
  obtain ⟨EF, hEF⟩ : ∃ Q, Q = evE l x z r := ⟨_, rfl⟩
  rw [← hQ, ← hLF, ← hEF]
  have HC : Hid (C = weF l x z ∧ Q = evC l x z r ∧ LF = evL l x z r ∧ EF = evE l x z r) := ⟨hC, hQ, hLF, hEF⟩
  have HW : Hid (∀ V, Below w.heap.size w V → Calls Try.prog 19 #[.slice a n c, .agg #[.int .i64 x.f.x0, .int .i64 x.f.y0, .int .i64 x.f.x1, .int .i64 x.f.y1, .int .i64 x.o, .int .i64 x.s, .int .i64 x.r], .int .i64 z] V fun e w' => e = .returned (.int .i64 C) ∧ Below V.heap.size V w') := fun V hV => by
    rw [hC]; exact impl_weF l x z H.out.2.2 (H.out.1.below hV)
  clear h hn hnn hC hQ hLF hEF hEO
  go_enter Try.func8, Try.ntmps8
  go_wp2_with (fail)
  refine (HW.out _ (by (repeat' (first | (with_reducible exact Below.refl _ _) | (with_reducible assumption) | (with_reducible refine Below.setCell ?_ ?_ _) | (with_reducible refine Below.alloc ?_ ?_ _) | (with_reducible refine below_drewN ?_ _) | (with_reducible refine Below.drew ?_) | (with_reducible exact Nat.le_refl _) | omega | (simp; done) | (simp; omega))))).mono ?_
  rintro e w1 ⟨rfl, hb1⟩
  have HB : Hid (BB w [(w.heap.size, .cells #[.int .i64 x.f.x0, .int .i64 x.f.y0, .int .i64 x.f.x1, .int .i64 x.f.y1, .int .i64 x.o, .int .i64 x.s, .int .i64 x.r] 36), (w.heap.size + 1, .cells #[.int .i64 0, .slice none 0 0, .slice none 0 0] 31)] (w.heap.size + 1 + 1) w1) := (((BB.start w).push rfl _).push (k := w.heap.size + 1) (by simp) _).grow hb1 (by omega) (by have := hb1.size; simpa using this)
  clear hb1 HW
  obtain ⟨k0, hk0⟩ : ∃ k, k = w.heap.size := ⟨_, rfl⟩
  have HK0 : Hid (k0 = w.heap.size) := hk0
  rw [← hk0] at HB ⊢
  clear hk0
  by_cases h0 : C ≠ 0
  · have hC2 : (C != 0) = true := by simpa using h0
    have HE : Hid (Q = C ∧ LF = [] ∧ EF = []) := by
      have e : evC l x z r = C := by rw [evC, if_neg (by rw [← HC.out.1]; exact h0), HC.out.1]
      exact ⟨HC.out.2.1.trans e, by rw [HC.out.2.2.1, evL, if_neg (by rw [e]; exact h0)], by rw [HC.out.2.2.2, evE, if_neg (by rw [e]; exact h0)]⟩
    have t0 := cellOf (HB.out.at 1 rfl) 0 rfl
    have t1 := cellOf (HB.out.at 1 rfl) 1 rfl
    have t2 := cellOf (HB.out.at 1 rfl) 2 rfl
    have f0 := frozOf (HB.out.at 1 rfl) 0
    have f1 := frozOf (HB.out.at 1 rfl) 1
    have f2 := frozOf (HB.out.at 1 rfl) 2
    have tl := ltOf (HB.out.at 1 rfl)
    have q2 := ((HB.out.set 1 0 rfl (.int .i64 C)).set 1 1 rfl (.slice none 0 0)).set 1 2 rfl (.slice none 0 0)
    have u0 := cellOf (q2.at 1 rfl) 0 rfl
    have u1 := cellOf (q2.at 1 rfl) 1 rfl
    have u2 := cellOf (q2.at 1 rfl) 2 rfl
    have QB : Hid _ := q2.bl
    clear q2
    go_wp2
    refine bodyPost_ret (by simp [results, Try.results8, go_sem, u0, u1, u2]; try rfl) rfl ⟨.slice none 0 0, .slice none 0 0, ?_, ?_, ?_, QB.out⟩
    · rw [HE.out.1]
    · rw [HE.out.2.1]; exact ⟨rfl, Or.inl ⟨rfl, rfl⟩⟩
    · rw [HE.out.2.2]; exact ⟨rfl, Or.inl ⟨rfl, rfl⟩⟩
  have h0' : C = 0 := by simpa using h0
  have HW0 : Hid (weF l x z = 0) := by unfold Hid; rw [← HC.out.1]; exact h0'
  subst h0'
  obtain ⟨q, hq⟩ : ∃ q, q = decide (0 ≤ r ∧ r ≤ 50) := ⟨_, rfl⟩
  clear h0
  go_wp2_with (fail)
  refine (impl_ins r 0 50 q hq _).mono ?_
  rintro e w2 ⟨rfl, rfl⟩
  by_cases hr : 0 ≤ r ∧ r ≤ 50
  case neg =>
    obtain rfl : false = q := by rw [hq, decide_eq_false hr]
    have HE : Hid (Q = 3 ∧ LF = [] ∧ EF = []) := by
      have e : evC l x z r = 3 := by rw [evC, if_pos HW0.out, if_neg hr]
      exact ⟨HC.out.2.1.trans e, by rw [HC.out.2.2.1, evL, if_neg (by rw [e]; decide)], by rw [HC.out.2.2.2, evE, if_neg (by rw [e]; decide)]⟩
    clear hq hr
    have t0 := cellOf (HB.out.at 1 rfl) 0 rfl
    have t1 := cellOf (HB.out.at 1 rfl) 1 rfl
    have t2 := cellOf (HB.out.at 1 rfl) 2 rfl
    have f0 := frozOf (HB.out.at 1 rfl) 0
    have f1 := frozOf (HB.out.at 1 rfl) 1
    have f2 := frozOf (HB.out.at 1 rfl) 2
    have tl := ltOf (HB.out.at 1 rfl)
    have q2 := ((HB.out.set 1 0 rfl (.int .i64 3)).set 1 1 rfl (.slice none 0 0)).set 1 2 rfl (.slice none 0 0)
    have u0 := cellOf (q2.at 1 rfl) 0 rfl
    have u1 := cellOf (q2.at 1 rfl) 1 rfl
    have u2 := cellOf (q2.at 1 rfl) 2 rfl
    have QB : Hid _ := q2.bl
    clear q2
    go_wp2
    refine bodyPost_ret (by simp [results, Try.results8, go_sem, u0, u1, u2]; try rfl) rfl ⟨.slice none 0 0, .slice none 0 0, ?_, ?_, ?_, QB.out⟩
    · rw [HE.out.1]
    · rw [HE.out.2.1]; exact ⟨rfl, Or.inl ⟨rfl, rfl⟩⟩
    · rw [HE.out.2.2]; exact ⟨rfl, Or.inl ⟨rfl, rfl⟩⟩
  obtain rfl : true = q := by rw [hq, decide_eq_true hr]
  clear hq
  obtain ⟨rn, hrn⟩ : ∃ rn : Nat, r = (rn : Int) := ⟨r.toNat, by omega⟩
  subst hrn
  have hrb : rn ≤ 50 := by omega
  obtain ⟨CS, hCS⟩ : ∃ CS, CS = evF l x z (rn : Int) := ⟨_, rfl⟩
  obtain ⟨E, hE⟩ : ∃ E : List Sh → Int, E = fun t => dsE t x z := ⟨_, rfl⟩
  obtain ⟨E0, hE0⟩ : ∃ e, e = E l := ⟨_, rfl⟩
  have hgd := spR_good (weF_good HW0.out).1
  have HS0 : Hid (EvO (bxS l) 1 (l, [E0]) ∧ evN E n rn (l, [E0]) = CS ∧ n ≤ 40 ∧ (bxS l).length = n) := by
    refine ⟨⟨rfl, hgd.1.2, Nat.zero_lt_one, Nat.le_refl _⟩, ?_, by rw [H.out.2.1]; exact hgd.1.1, by unfold bxS; rw [List.length_map, H.out.2.1]⟩
    rw [hCS, evF, hE0, hE, H.out.2.1]; rfl
  have HE : Hid (Q = 0 ∧ LF = CS.1 ∧ EF = CS.2) := by
    have e : evC l x z (rn : Int) = 0 := by rw [evC, if_pos HW0.out, if_pos hr]
    exact ⟨HC.out.2.1.trans e, by rw [HC.out.2.2.1, evL, if_pos e, hCS], by rw [HC.out.2.2.2, evE, if_pos e, hCS]⟩
  have HEO : Hid (∀ V, Below w.heap.size w V → Calls Try.prog 21 #[.slice a n c, .agg #[.int .i64 x.f.x0, .int .i64 x.f.y0, .int .i64 x.f.x1, .int .i64 x.f.y1, .int .i64 x.o, .int .i64 x.s, .int .i64 x.r], .int .i64 z] V fun e w' => ∃ q1 q2 q3 q4, e = .returned (ecV q1 q2 q3 q4) ∧ Hid (Tells w'.heap.size q1 q2 q3 q4 E (bxS l) w') ∧ Below V.heap.size V w') := fun V hV => by
    rw [hE]; exact HEP.out HW0.out V _ (H.out.1.below hV)
  have HLD : Hid (∀ q ∈ l, 0 ≤ q.d ∧ q.d ≤ 1000) := hgd.1.2
  have HE0 : Hid (E0 = E l) := hE0
  have hn40 : n ≤ 40 := HS0.out.2.2.1
  have a0 := cellOf (HB.out.at 0 rfl) 0 rfl
  have a1 := cellOf (HB.out.at 0 rfl) 1 rfl
  have a2 := cellOf (HB.out.at 0 rfl) 2 rfl
  have a3 := cellOf (HB.out.at 0 rfl) 3 rfl
  have a4 := cellOf (HB.out.at 0 rfl) 4 rfl
  have a5 := cellOf (HB.out.at 0 rfl) 5 rfl
  have a6 := cellOf (HB.out.at 0 rfl) 6 rfl
  have al := ltOf (HB.out.at 0 rfl)
  clear hr hCS hE hE0 hgd HC HW0 HEP
  go_wp2_with (fail)
  refine (HEO.out _ HB.out.bl).mono ?_
  rintro e w3 ⟨q1, q2, q3, q4, rfl, HTL, hb3⟩
  have HB3 : Hid (BB w [(k0, .cells #[.int .i64 x.f.x0, .int .i64 x.f.y0, .int .i64 x.f.x1, .int .i64 x.f.y1, .int .i64 x.o, .int .i64 x.s, .int .i64 x.r] 36), (k0 + 1, .cells #[.int .i64 0, .slice none 0 0, .slice none 0 0] 31)] (k0 + 1 + 1) w3) := HB.out.below hb3
  clear hb3 HEO HB a0 a1 a2 a3 a4 a5 a6 al
  obtain ⟨g, hg⟩ : ∃ g, g = w3.heap.size := ⟨_, rfl⟩
  have HG : Hid (g = w3.heap.size) := hg
  clear hg
  have HCP : Hid (Calls Try.prog 22 #[.slice a n c] w3 fun e w' => e = .returned (.slice (some ⟨g, 0, none⟩) n n) ∧ Hid (OG 48 5 shC w' g (.slice (some ⟨g, 0, none⟩) n n) l) ∧ Hid (Below g w3 w')) := by
    have h9 := impl_cpS (s := l) (by have := H.out.2.2; omega) (H.out.1.below HB3.out.bl)
    rw [← H.out.2.1, ← HG.out] at h9
    exact h9
  unfold ecV
  go_wp2_with (fail)
  refine HCP.out.mono ?_
  rintro e w4 ⟨rfl, HO4, HB4⟩
  have HCL : Hid (Calls Try.prog 39 #[.slice a n c, .pointer (some ⟨q1, 0, none⟩), .pointer (some ⟨q2, 0, none⟩), .pointer (some ⟨q3, 0, none⟩), .pointer (some ⟨q4, 0, none⟩)] w4 fun e w' => e = .returned (.int .i64 E0) ∧ Below w4.heap.size w4 w') := by
    unfold Hid
    rw [HE0.out]
    exact HTL.out w4 _ l (by rw [← HG.out]; exact HB4.out) rfl HLD.out (H.out.1.below (HB3.out.bl.trans (HB4.out.mono (by rw [HG.out]; exact HB3.out.bl.size))))
  clear HCP
  go_wp2_with (fail)
  refine HCL.out.mono ?_
  rintro e w5 ⟨rfl, hb5⟩
  have HV5 : Hid (OG 48 5 shC w5 g (.slice (some ⟨g, 0, none⟩) n n) l ∧ Below g w3 w5) := ⟨HO4.out.below hb5, HB4.out.trans (hb5.mono (by have := HB4.out.size; rw [HG.out]; exact this))⟩
  clear hb5 HO4 HB4 HCL
  have hst := store_fn4
  go_wp2_with (fail)
  clear hst
  obtain ⟨ke, hke⟩ : ∃ k, k = w5.heap.size + 1 := ⟨_, rfl⟩
  rw [← hke]
  have HBC : Hid (Evn g ke (ecV q1 q2 q3 q4) (l, [E0]) ((w5.alloc (.cells #[.int .i64 E0] 2)).alloc (.cells #[.slice (some ⟨g, 0, none⟩) n n, .slice (some ⟨w5.heap.size, 0, none⟩) 1 1, ecV q1 q2 q3 q4] 58)) ∧ Below g w3 ((w5.alloc (.cells #[.int .i64 E0] 2)).alloc (.cells #[.slice (some ⟨g, 0, none⟩) n n, .slice (some ⟨w5.heap.size, 0, none⟩) 1 1, ecV q1 q2 q3 q4] 58))) := by
    have hgs : g ≤ w5.heap.size := by have := HV5.out.2.size; rw [HG.out]; exact this
    have hb6 : Below w5.heap.size w5 ((w5.alloc (.cells #[.int .i64 E0] 2)).alloc (.cells #[.slice (some ⟨g, 0, none⟩) n n, .slice (some ⟨w5.heap.size, 0, none⟩) 1 1, ecV q1 q2 q3 q4] 58)) := by (repeat' (first | (with_reducible exact Below.refl _ _) | (with_reducible assumption) | (with_reducible refine Below.setCell ?_ ?_ _) | (with_reducible refine Below.alloc ?_ ?_ _) | (with_reducible refine below_drewN ?_ _) | (with_reducible refine Below.drew ?_) | (with_reducible exact Nat.le_refl _) | omega | (simp; done) | (simp; omega)))
    refine ⟨⟨.slice (some ⟨g, 0, none⟩) n n, .slice (some ⟨w5.heap.size, 0, none⟩) 1 1, ⟨?_, HV5.out.1.below hb6, ?_, by omega⟩⟩, HV5.out.2.trans (hb6.mono hgs)⟩
    · rw [hke]
      have := heap_alloc_new (w5.alloc (.cells #[.int .i64 E0] 2)) (.cells #[.slice (some ⟨g, 0, none⟩) n n, .slice (some ⟨w5.heap.size, 0, none⟩) 1 1, ecV q1 q2 q3 q4] 58)
      simpa using this
    · have hc := heap_alloc_new w5 (.cells #[.int .i64 E0] 2)
      have hc2 := (Below.heap_alloc (w5.alloc (.cells #[.int .i64 E0] 2)) (.cells #[.slice (some ⟨g, 0, none⟩) n n, .slice (some ⟨w5.heap.size, 0, none⟩) 1 1, ecV q1 q2 q3 q4] 58) w5.heap.size (by simp)).trans hc
      exact ⟨rfl, Or.inr ⟨w5.heap.size, 1, _, rfl, hgs, hc2, Nat.le_refl _, by unfold maxLen; omega, rfl, rfl⟩⟩
  have HRD : Hid (∀ (W W' : World) (j : Nat) (S : EvS), j < rn → Evn g ke (ecV q1 q2 q3 q4) S W → Below g w3 W → Below W.heap.size W W' → EvO (bxS l) (1 + n * j) S → Calls Try.prog 23 #[.pointer (some ⟨ke, 0, none⟩)] W' fun e w' => e = .returned (.bool (evR E n S).1) ∧ Evn g ke (ecV q1 q2 q3 q4) (evR E n S).2 w' ∧ Below g w3 w') := by
    intro W W' j S hj hb hW hbW hok
    have hgW : g ≤ W.heap.size := by have := hW.size; rw [HG.out]; exact this
    have hW' : Below g w3 W' := hW.trans (hbW.mono hgW)
    have hnj : n * j ≤ 40 * 50 := Nat.mul_le_mul hn40 (by omega)
    have h9 := impl_evr E (hb.next hbW) hok (by rw [HS0.out.2.2.2]; omega) (by rw [HS0.out.2.2.2]; exact hn40) (Nat.le_trans hgW hbW.size) (fun V v t hV => HTL.out V v t (by rw [← HG.out]; exact hW'.trans hV))
    rw [HS0.out.2.2.2] at h9
    refine h9.mono ?_
    rintro e w' ⟨h1, h2, h3⟩
    exact ⟨h1, h2, hW'.trans h3⟩
  clear hke HV5 HTL
  unfold ecV at HBC
  go_loopw [37] (fun i wr => ∃ (j : Nat) (S : EvS), j ≤ rn ∧ i = .int .i64 j ∧ Hid (Evn g ke (ecV q1 q2 q3 q4) S wr ∧ Below g w3 wr ∧ EvO (bxS l) (1 + n * j) S ∧ evN E n (rn - j) S = CS)) (fun i _ => rn - (intOf i).toNat)
  case atStart => exact ⟨0, (l, [E0]), Nat.zero_le _, rfl, ⟨HBC.out.1, HBC.out.2, HS0.out.1, HS0.out.2.1⟩⟩
  case round =>
    clear HBC
    obtain ⟨j, S, hj, rfl, hR⟩ := hrel
    by_cases hlt : j < rn
    · have b0 : (0 : Int) ≤ (j : Int) := by omega
      have b1 : (j : Int) < (rn : Int) := by omega
      obtain ⟨RD, hRDe⟩ : ∃ RD, RD = evR E n S := ⟨_, rfl⟩
      have HST : Hid ((RD.1 = true → evN E n (rn - (j + 1)) RD.2 = CS) ∧ (RD.1 = false → RD.2 = CS) ∧ EvO (bxS l) (1 + n * (j + 1)) RD.2) := by
        have e1 : rn - j = (rn - (j + 1)) + 1 := by omega
        have h1 := hR.out.2.2.2
        rw [e1, evN, ← hRDe] at h1
        refine ⟨fun h => by rw [if_pos h] at h1; exact h1, fun h => by rw [if_neg (by simp [h])] at h1; exact h1, ?_⟩
        rw [hRDe]
        exact (evR_ok n hR.out.2.2.1).mono (by rw [Nat.mul_add]; omega)
      go_wp2_with (fail)
      refine (HRD.out wr _ j S hlt hR.out.1 hR.out.2.1 (by (repeat' (first | (with_reducible exact Below.refl _ _) | (with_reducible assumption) | (with_reducible refine Below.setCell ?_ ?_ _) | (with_reducible refine Below.alloc ?_ ?_ _) | (with_reducible refine below_drewN ?_ _) | (with_reducible refine Below.drew ?_) | (with_reducible exact Nat.le_refl _) | omega | (simp; done) | (simp; omega)))) hR.out.2.2.1).mono ?_
      rintro e w2 ⟨rfl, hb2, hbb2⟩
      rw [← hRDe] at hb2 ⊢
      clear hRDe hR
      obtain ⟨tk, S2⟩ := RD
      have HB2 : Hid (Evn g ke (ecV q1 q2 q3 q4) S2 w2 ∧ Below g w3 w2) := ⟨hb2, hbb2⟩
      clear hb2 hbb2
      cases tk with
      | true =>
        have HS1 : Hid (evN E n (rn - (j + 1)) S2 = CS ∧ EvO (bxS l) (1 + n * (j + 1)) S2) := ⟨HST.out.1 rfl, HST.out.2.2⟩
        clear HST
        go_wp2_with (fail)
        go_roundw
        case rel => exact ⟨j + 1, S2, by omega, by go_num, ⟨HB2.out.1.next (by (repeat' (first | (with_reducible exact Below.refl _ _) | (with_reducible assumption) | (with_reducible refine Below.setCell ?_ ?_ _) | (with_reducible refine Below.alloc ?_ ?_ _) | (with_reducible refine below_drewN ?_ _) | (with_reducible refine Below.drew ?_) | (with_reducible exact Nat.le_refl _) | omega | (simp; done) | (simp; omega)))), (by have h := HB2.out.2; (repeat' (first | (with_reducible exact Below.refl _ _) | (with_reducible assumption) | (with_reducible refine Below.setCell ?_ ?_ _) | (with_reducible refine Below.alloc ?_ ?_ _) | (with_reducible refine below_drewN ?_ _) | (with_reducible refine Below.drew ?_) | (with_reducible exact Nat.le_refl _) | omega | (simp; done) | (simp; omega)))), HS1.out.2, HS1.out.1⟩⟩
        case measure => simp [intOf]; omega
      | false =>
        have hS2 : S2 = CS := HST.out.2.1 rfl
        subst hS2
        have HT : Hid (Evn g ke (ecV q1 q2 q3 q4) S2 w2 ∧ Below g w3 w2) := HB2
        clear HST HB2
        obtain ⟨bv, ev, hED⟩ := HT.out.1
        obtain ⟨ba, bc, hbv⟩ := (OG.rg shC_len hED.bo).form
        obtain ⟨bn, hbn⟩ : ∃ m, m = S2.1.length := ⟨_, rfl⟩
        rw [← hbn] at hbv
        subst hbv
        obtain ⟨ea, ec, hev⟩ := hED.er.form
        obtain ⟨en, hen⟩ : ∃ m, m = S2.2.length := ⟨_, rfl⟩
        rw [← hen] at hev
        subst hev
        obtain ⟨u0, u1, u2, uf, ul⟩ := three_at hED.kb
        have HED : Hid (OG 48 5 shC w2 g (.slice ba bn bc) S2.1 ∧ IS w2 g (.slice ea en ec) S2.2) := ⟨hED.bo, hED.er⟩
        have HBz : Hid (BB w [(k0, .cells #[.int .i64 x.f.x0, .int .i64 x.f.y0, .int .i64 x.f.x1, .int .i64 x.f.y1, .int .i64 x.o, .int .i64 x.s, .int .i64 x.r] 36), (k0 + 1, .cells #[.int .i64 0, .slice none 0 0, .slice none 0 0] 31)] (k0 + 1 + 1) w2) := HB3.out.below (by rw [← HG.out]; exact HT.out.2)
        have t0 := cellOf (HBz.out.at 1 rfl) 0 rfl
        have t1 := cellOf (HBz.out.at 1 rfl) 1 rfl
        have t2 := cellOf (HBz.out.at 1 rfl) 2 rfl
        have f0 := frozOf (HBz.out.at 1 rfl) 0
        have f1 := frozOf (HBz.out.at 1 rfl) 1
        have f2 := frozOf (HBz.out.at 1 rfl) 2
        have tl := ltOf (HBz.out.at 1 rfl)
        have q2 := ((HBz.out.set 1 0 rfl (.int .i64 0)).set 1 1 rfl (.slice ba bn bc)).set 1 2 rfl (.slice ea en ec)
        have z0 := cellOf (q2.at 1 rfl) 0 rfl
        have z1 := cellOf (q2.at 1 rfl) 1 rfl
        have z2 := cellOf (q2.at 1 rfl) 2 rfl
        have QB : Hid _ := q2.bl
        have HKG : Hid (k0 + 1 < g ∧ w.heap.size ≤ g) := ⟨by rw [HG.out]; exact ltOf (HB3.out.at 1 rfl), by rw [HG.out]; exact HB3.out.bl.size⟩
        clear q2 uf hED hbn hen
        go_wp2
        refine bodyPost_ret (by simp [results, Try.results8, go_sem, z0, z1, z2]; try rfl) rfl ⟨.slice ba bn bc, .slice ea en ec, ?_, ?_, ?_, QB.out⟩
        · rw [HE.out.1]
        · rw [HE.out.2.1]
          refine rowKept (HED.out.1.low HKG.out.2) fun g' hg' => ?_
          have hgg : g ≤ g' := (OG.lt HED.out.1 g' hg').1
          have hkg := HKG.out.1
          rw [heap_setCell_other _ _ _ _ (show ¬ g' = k0 + 1 by omega), heap_setCell_other _ _ _ _ (show ¬ g' = k0 + 1 by omega), heap_setCell_other _ _ _ _ (show ¬ g' = k0 + 1 by omega)]
        · rw [HE.out.2.2]
          refine (og_is.1 ((og_is.2 HED.out.2).low HKG.out.2)).kept fun g' hg' => ?_
          have hgg : g ≤ g' := (IS.lt HED.out.2 g' hg').1
          have hkg := HKG.out.1
          rw [heap_setCell_other _ _ _ _ (show ¬ g' = k0 + 1 by omega), heap_setCell_other _ _ _ _ (show ¬ g' = k0 + 1 by omega), heap_setCell_other _ _ _ _ (show ¬ g' = k0 + 1 by omega)]
    · have b1 : ¬ (j : Int) < (rn : Int) := by omega
      obtain rfl : j = rn := by omega
      have hS2 : S = CS := by have h := hR.out.2.2.2; rw [Nat.sub_self, evN] at h; exact h
      subst hS2
      have HT : Hid (Evn g ke (ecV q1 q2 q3 q4) S wr ∧ Below g w3 wr) := ⟨hR.out.1, hR.out.2.1⟩
      clear hR
      obtain ⟨bv, ev, hED⟩ := HT.out.1
      obtain ⟨ba, bc, hbv⟩ := (OG.rg shC_len hED.bo).form
      obtain ⟨bn, hbn⟩ : ∃ m, m = S.1.length := ⟨_, rfl⟩
      rw [← hbn] at hbv
      subst hbv
      obtain ⟨ea, ec, hev⟩ := hED.er.form
      obtain ⟨en, hen⟩ : ∃ m, m = S.2.length := ⟨_, rfl⟩
      rw [← hen] at hev
      subst hev
      obtain ⟨u0, u1, u2, uf, ul⟩ := three_at hED.kb
      have HED : Hid (OG 48 5 shC wr g (.slice ba bn bc) S.1 ∧ IS wr g (.slice ea en ec) S.2) := ⟨hED.bo, hED.er⟩
      have HBz : Hid (BB w [(k0, .cells #[.int .i64 x.f.x0, .int .i64 x.f.y0, .int .i64 x.f.x1, .int .i64 x.f.y1, .int .i64 x.o, .int .i64 x.s, .int .i64 x.r] 36), (k0 + 1, .cells #[.int .i64 0, .slice none 0 0, .slice none 0 0] 31)] (k0 + 1 + 1) wr) := HB3.out.below (by rw [← HG.out]; exact HT.out.2)
      have t0 := cellOf (HBz.out.at 1 rfl) 0 rfl
      have t1 := cellOf (HBz.out.at 1 rfl) 1 rfl
      have t2 := cellOf (HBz.out.at 1 rfl) 2 rfl
      have f0 := frozOf (HBz.out.at 1 rfl) 0
      have f1 := frozOf (HBz.out.at 1 rfl) 1
      have f2 := frozOf (HBz.out.at 1 rfl) 2
      have tl := ltOf (HBz.out.at 1 rfl)
      have q2 := ((HBz.out.set 1 0 rfl (.int .i64 0)).set 1 1 rfl (.slice ba bn bc)).set 1 2 rfl (.slice ea en ec)
      have z0 := cellOf (q2.at 1 rfl) 0 rfl
      have z1 := cellOf (q2.at 1 rfl) 1 rfl
      have z2 := cellOf (q2.at 1 rfl) 2 rfl
      have QB : Hid _ := q2.bl
      have HKG : Hid (k0 + 1 < g ∧ w.heap.size ≤ g) := ⟨by rw [HG.out]; exact ltOf (HB3.out.at 1 rfl), by rw [HG.out]; exact HB3.out.bl.size⟩
      clear q2 uf hED hbn hen
      go_wp2
      refine bodyPost_ret (by simp [results, Try.results8, go_sem, z0, z1, z2]; try rfl) rfl ⟨.slice ba bn bc, .slice ea en ec, ?_, ?_, ?_, QB.out⟩
      · rw [HE.out.1]
      · rw [HE.out.2.1]
        refine rowKept (HED.out.1.low HKG.out.2) fun g' hg' => ?_
        have hgg : g ≤ g' := (OG.lt HED.out.1 g' hg').1
        have hkg := HKG.out.1
        rw [heap_setCell_other _ _ _ _ (show ¬ g' = k0 + 1 by omega), heap_setCell_other _ _ _ _ (show ¬ g' = k0 + 1 by omega), heap_setCell_other _ _ _ _ (show ¬ g' = k0 + 1 by omega)]
      · rw [HE.out.2.2]
        refine (og_is.1 ((og_is.2 HED.out.2).low HKG.out.2)).kept fun g' hg' => ?_
        have hgg : g ≤ g' := (IS.lt HED.out.2 g' hg').1
        have hkg := HKG.out.1
        rw [heap_setCell_other _ _ _ _ (show ¬ g' = k0 + 1 by omega), heap_setCell_other _ _ _ _ (show ¬ g' = k0 + 1 by omega), heap_setCell_other _ _ _ _ (show ¬ g' = k0 + 1 by omega)]

end Go.Proofs.Ytmpbcdolikafpaa
