/- Proved here: CheckFit of the document's model: cfB. -/
import Derived.Test.YtdidmjgilnhncabCfM
import Derived.Test.YtdidmjgilnhncabRdS
import Derived.Test.YtdidmjgilnhncabAcS
import Derived.Test.YtdidmjgilnhncabFault
namespace Go.Proofs.Ytdidmjgilnhncab
open Go.RowKit
set_option linter.unusedVariables false
set_option linter.unusedSimpArgs false

theorem AC.other {w w' : World} {K o o' : Nat} {a b : QR} (hD : AD w w' K o a) (h : AC w K o' b) (hne : o' + 3 ≤ o ∨ o + 3 ≤ o') : AC w' K o' b := by
  have h0 := hD.other o' (by omega) (by omega) (by omega)
  have h1 := hD.other (o' + 1) (by omega) (by omega) (by omega)
  have h2 := hD.other (o' + 2) (by omega) (by omega) (by omega)
  exact ⟨h0.1.trans h.c0, h1.1.trans h.c1, h2.1.trans h.c2, h0.2.trans h.f0, h1.2.trans h.f1, h2.2.trans h.f2, hD.ac.lt⟩
/-- All but one block stays. -/
def KG (G : Nat) (W w : World) : Prop := ∀ b o, b < W.heap.size → b ≠ G → w.cell? ⟨b, o, none⟩ = W.cell? ⟨b, o, none⟩
theorem KG.of {G : Nat} {W w : World} (h : Chg G (G + 1) W w) : KG G W w := fun b o hb hn => by
  have e := h.block b hb (by omega)
  simp [World.cell?, e]
theorem Chg.cell {G : Nat} {W w : World} (h : Chg G (G + 1) W w) {b : Nat} (o : Nat) (hb : b < W.heap.size) (hn : b ≠ G) : w.cell? ⟨b, o, none⟩ = W.cell? ⟨b, o, none⟩ := KG.of h b o hb hn
/-- Four sums on their way. -/
structure A4 (w : World) (K : Nat) (a b c d : QR) : Prop where
  a : AC w K 0 a
  b : AC w K 3 b
  c : AC w K 6 c
  d : AC w K 9 d
theorem A4.below {w w' : World} {K : Nat} {a b c d : QR} (h : A4 w K a b c d) (hb : Below w.heap.size w w') : A4 w' K a b c d :=
  ⟨h.a.keep (hb.block _ h.a.lt), h.b.keep (hb.block _ h.b.lt), h.c.keep (hb.block _ h.c.lt), h.d.keep (hb.block _ h.d.lt)⟩
theorem A4.set0 {w w' : World} {K : Nat} {a b c d e : QR} (h : A4 w K a b c d) (hD : AD w w' K 0 e) : A4 w' K e b c d := ⟨hD.ac, AC.other hD h.b (by omega), AC.other hD h.c (by omega), AC.other hD h.d (by omega)⟩
theorem A4.set3 {w w' : World} {K : Nat} {a b c d e : QR} (h : A4 w K a b c d) (hD : AD w w' K 3 e) : A4 w' K a e c d := ⟨AC.other hD h.a (by omega), hD.ac, AC.other hD h.c (by omega), AC.other hD h.d (by omega)⟩
theorem A4.set6 {w w' : World} {K : Nat} {a b c d e : QR} (h : A4 w K a b c d) (hD : AD w w' K 6 e) : A4 w' K a b e d := ⟨AC.other hD h.a (by omega), AC.other hD h.b (by omega), hD.ac, AC.other hD h.d (by omega)⟩
theorem A4.set9 {w w' : World} {K : Nat} {a b c d e : QR} (h : A4 w K a b c d) (hD : AD w w' K 9 e) : A4 w' K a b c e := ⟨AC.other hD h.a (by omega), AC.other hD h.b (by omega), AC.other hD h.c (by omega), hD.ac⟩
def rst (f : Nat → QR) : Nat → Nat → Bool
  | _, 0 => true
  | j, n + 1 => isN (f j) && rst f (j + 1) n
def acF (a b c d : QR) : Nat → QR := fun i => if i = 0 then a else if i = 1 then b else if i = 2 then c else d
theorem A4.at {w : World} {K : Nat} {a b c d : QR} (h : A4 w K a b c d) {j : Nat} (hj : j < 4) : AC w K (j * 3) (acF a b c d j) := by
  rcases (by omega : j = 0 ∨ j = 1 ∨ j = 2 ∨ j = 3) with rfl | rfl | rfl | rfl
  · exact h.a
  · exact h.b
  · exact h.c
  · exact h.d
theorem isN_same (q : QR) : isN q = (q.c == 0 && same2 q.n q.d 0 1) := by
  unfold isN same2
  rw [Bool.decide_and, Bool.decide_and]; rfl
theorem getD_frS {w : World} {a : Option Addr} {n c : Nat} {L : List Fr} (h : RG 2 frC w (.slice a n c) L) {j : Nat} (hj : j < L.length) : ∃ g o, a = some ⟨g, o, none⟩ ∧ g < w.heap.size ∧ w.cell? ⟨g, o + j * 2, none⟩ = some (.int .i64 (L.getD j fr0).n) ∧ w.cell? ⟨g, o + j * 2 + 1, none⟩ = some (.int .i64 (L.getD j fr0).d) := by
  obtain ⟨g, o, c2, he, hg, hc⟩ := h.pos (by omega)
  simp only [Value.slice.injEq] at he
  obtain ⟨c0, c1⟩ := frC_at (hc j hj)
  rw [List.getD_eq_getElem?_getD, List.getElem?_eq_getElem hj]
  exact ⟨g, o, he.1, hg, c0, c1⟩

set_option maxRecDepth 10000 in
set_option maxHeartbeats 25600000 in
theorem spec_cf (m : Mdl) {w : World} {v : Value} {s : List Mrk} (hn : s.length ≤ 1048576) (h : RG 4 maC w v s) :
    Calls Try.prog 8 #[v, .agg #[.int .i64 m.sx.n, .int .i64 m.sx.d, .int .i64 m.sy.n, .int .i64 m.sy.d, .int .i64 m.k.n, .int .i64 m.k.d, .int .i64 m.r.n, .int .i64 m.r.d]] w fun e w' => e = .returned (.bool (cfB s m)) ∧ Below w.heap.size w w' := by
  obtain ⟨a, c, rfl⟩ := h.form
  obtain ⟨n, hnn⟩ : ∃ n, n = s.length := ⟨_, rfl⟩
  obtain ⟨Q, hQ⟩ : ∃ Q, Q = cfB s m := ⟨_, rfl⟩
  rw [← hQ]
  have HQ : Hid (Q = cfB s m) := hQ
  clear hQ
  obtain ⟨C, hC⟩ : ∃ C, C = rdC s m := ⟨_, rfl⟩
  obtain ⟨L, hL⟩ : ∃ L, L = rdL s m := ⟨_, rfl⟩
  have HRD : Hid (∀ W, Below w.heap.size w W → Calls Try.prog 34 #[.slice a n c, .agg #[.int .i64 m.sx.n, .int .i64 m.sx.d, .int .i64 m.sy.n, .int .i64 m.sy.d, .int .i64 m.k.n, .int .i64 m.k.d, .int .i64 m.r.n, .int .i64 m.r.d]] W fun e w' => ∃ v', e = .returned (.agg #[.int .i64 C, v']) ∧ OG 31 2 frC w' W.heap.size v' L ∧ Below W.heap.size W w') := fun W hW => by rw [hC, hL, hnn]; exact spec_rd m hn (h.below hW)
  have HL : Hid (C = rdC s m ∧ L = rdL s m ∧ L.length ≤ 40) := ⟨hC, hL, by rw [hL]; exact rdL_len _ _⟩
  rw [← hnn] at h ⊢
  have H : Hid (RG 4 maC w (.slice a n c) s ∧ n = s.length) := ⟨h, hnn⟩
  clear h hnn hn hC hL
  obtain ⟨V, hV⟩ : ∃ V, V = w.alloc (.cells #[.int .i64 m.sx.n, .int .i64 m.sx.d, .int .i64 m.sy.n, .int .i64 m.sy.d, .int .i64 m.k.n, .int .i64 m.k.d, .int .i64 m.r.n, .int .i64 m.r.d] 33) := ⟨_, rfl⟩
  obtain ⟨a1, h⟩ : ∃ a, a = m.sx.n := ⟨_, rfl⟩
  obtain ⟨a2, h2⟩ : ∃ a, a = m.sx.d := ⟨_, rfl⟩
  obtain ⟨b1, h3⟩ : ∃ a, a = m.sy.n := ⟨_, rfl⟩
  obtain ⟨b2, h4⟩ : ∃ a, a = m.sy.d := ⟨_, rfl⟩
  obtain ⟨k1, h5⟩ : ∃ a, a = m.k.n := ⟨_, rfl⟩
  obtain ⟨k2, h6⟩ : ∃ a, a = m.k.d := ⟨_, rfl⟩
  obtain ⟨r1, h7⟩ : ∃ a, a = m.r.n := ⟨_, rfl⟩
  obtain ⟨r2, h8⟩ : ∃ a, a = m.r.d := ⟨_, rfl⟩
  rw [← h, ← h2, ← h3, ← h4, ← h5, ← h6, ← h7, ← h8] at hV HRD ⊢
  clear h h2 h3 h4 h5 h6 h7 h8
  have HV : Hid (V.heap[w.heap.size]? = some (.cells #[.int .i64 a1, .int .i64 a2, .int .i64 b1, .int .i64 b2, .int .i64 k1, .int .i64 k2, .int .i64 r1, .int .i64 r2] 33) ∧ True ∧ Below w.heap.size w V ∧ V.heap.size = w.heap.size + 1) := by
    refine ⟨?_, trivial, by rw [hV]; (repeat' (first | (with_reducible exact Below.refl _ _) | (with_reducible assumption) | (with_reducible refine Below.setCell ?_ ?_ _) | (with_reducible refine Below.alloc ?_ ?_ _) | (with_reducible refine below_drewN ?_ _) | (with_reducible refine Below.drew ?_) | (with_reducible exact Nat.le_refl _) | omega | (simp; done) | (simp; omega))), by rw [hV]; simp⟩
    rw [hV]; exact heap_alloc_new w _
  obtain ⟨p0, p1, p2, p3, p4, p5, p6, p7, pl⟩ := eight_c HV.out.1
  go_enter Try.func8, Try.ntmps8
  go_upto_region 1 with fail
  rw [← hV]
  clear hV
  go_wp2_with (fail)
  refine (HRD.out _ HV.out.2.2.1).mono ?_
  rintro e w1 ⟨v', rfl, ho1, hb1⟩
  obtain ⟨ra, rc, hrv⟩ := (OG.rg frC_len ho1).form
  obtain ⟨rn, hrn⟩ : ∃ r, r = L.length := ⟨_, rfl⟩
  rw [← hrn] at hrv
  subst hrv
  have hr40 : rn ≤ 40 := by rw [hrn]; exact HL.out.2.2
  have HW1 : Hid (OG 31 2 frC w1 V.heap.size (.slice ra rn rc) L ∧ Below V.heap.size V w1 ∧ rn = L.length) := ⟨ho1, hb1, hrn⟩
  clear HRD ho1 hb1 hrn p0 p1 p2 p3 p4 p5 p6 p7 pl
  by_cases hC0 : C = 0
  case neg =>
    have HE : Hid (Q = false) := by unfold Hid; rw [HQ.out, cfB_bad (by rw [← HL.out.1]; exact hC0)]
    have hA : (C != 0) = true := by simpa using hC0
    have HBZ : Hid (Below w.heap.size w w1) := HV.out.2.2.1.trans (HW1.out.2.1.mono HV.out.2.2.1.size)
    clear hC0 HW1 HV
    go_wp2
    go_returns
    refine ⟨by rw [HE.out] <;> rfl, ?_⟩
    have hb := HBZ.out
    have hs := hb.size
    (repeat' (first | (with_reducible exact Below.refl _ _) | (with_reducible assumption) | (with_reducible refine Below.setCell ?_ ?_ _) | (with_reducible refine Below.alloc ?_ ?_ _) | (with_reducible refine below_drewN ?_ _) | (with_reducible refine Below.drew ?_) | (with_reducible exact Nat.le_refl _) | omega | (simp; done) | (simp; omega)))
  have hA : (C != 0) = false := by rw [hC0]; rfl
  have HE : Hid (rdC s m = 0 ∧ L.length = 2 * n ∧ msF s = 0 ∧ ∀ j, j < 2 * n → okR (L.getD j fr0) = true) := by
    have e : rdC s m = 0 := by rw [← HL.out.1]; exact hC0
    have h1 := rdL_ok e
    exact ⟨e, by rw [HL.out.2.1, h1.1, H.out.2], h1.2.1, fun j hj => by rw [HL.out.2.1]; exact rdL_at e (by rw [← H.out.2]; exact hj)⟩
  have hn20 : n ≤ 20 := by rw [H.out.2]; exact (msF_ok HE.out.2.2.1).2.1
  clear hC0
  go_wp2_with (fail)
  refine (spec_int 0 _).mono ?_
  rintro e w2 ⟨rfl, hb2⟩
  obtain ⟨Kl, hKl⟩ : ∃ K, K = w1.heap.size := ⟨_, rfl⟩
  have HW2 : Hid (RG 2 frC w2 (.slice ra rn rc) L ∧ Below w.heap.size w w2 ∧ rn = L.length ∧ w2.heap[Kl]? = some (.cells #[.int .i64 C, .slice ra rn rc] 47)) := by
    have hb3 : Below w1.heap.size w1 w2 := (show Below w1.heap.size w1 _ from by (repeat' (first | (with_reducible exact Below.refl _ _) | (with_reducible assumption) | (with_reducible refine Below.setCell ?_ ?_ _) | (with_reducible refine Below.alloc ?_ ?_ _) | (with_reducible refine below_drewN ?_ _) | (with_reducible refine Below.drew ?_) | (with_reducible exact Nat.le_refl _) | omega | (simp; done) | (simp; omega)))).trans (hb2.mono (by simp))
    have hb4 : Below V.heap.size V w2 := HW1.out.2.1.trans (hb3.mono HW1.out.2.1.size)
    refine ⟨(OG.rg frC_len HW1.out.1).below hb3, HV.out.2.2.1.trans (hb4.mono HV.out.2.2.1.size), HW1.out.2.2, ?_⟩
    rw [hKl]; exact (hb2.block _ (by simp)).trans (heap_alloc_new w1 _)
  rw [← hKl]
  clear HW1 hb2 hKl HV
  obtain ⟨V0, hV0⟩ : ∃ V, V = (w2.alloc (.cells #[.int .i64 0, .int .i64 1] 31)).alloc (.cells #[.int .i64 0, .int .i64 0, .int .i64 1, .int .i64 0, .int .i64 0, .int .i64 1, .int .i64 0, .int .i64 0, .int .i64 1, .int .i64 0, .int .i64 0, .int .i64 1] 70) := ⟨_, rfl⟩
  obtain ⟨Kz, hKz⟩ : ∃ K, K = w2.heap.size := ⟨_, rfl⟩
  obtain ⟨K, hK⟩ : ∃ K, K = w2.heap.size + 1 := ⟨_, rfl⟩
  have HV0 : Hid (Below w2.heap.size w2 V0 ∧ V0.heap[Kz]? = some (.cells #[.int .i64 0, .int .i64 1] 31) ∧ A4 V0 K (s0 (ckA L 0)) (s0 (ckU L 0)) (s0 (ckS s L 0)) (s0 (ckT s L 0))) := by
    have h1 : V0.heap[Kz]? = some (.cells #[.int .i64 0, .int .i64 1] 31) := by rw [hV0, hKz]; exact (Below.heap_alloc _ _ _ (by simp)).trans (heap_alloc_new w2 _)
    have h2 : V0.heap[K]? = some (.cells #[.int .i64 0, .int .i64 0, .int .i64 1, .int .i64 0, .int .i64 0, .int .i64 1, .int .i64 0, .int .i64 0, .int .i64 1, .int .i64 0, .int .i64 0, .int .i64 1] 70) := by rw [hV0, hK]; have := heap_alloc_new (w2.alloc (.cells #[.int .i64 0, .int .i64 1] 31)) (.cells #[.int .i64 0, .int .i64 0, .int .i64 1, .int .i64 0, .int .i64 0, .int .i64 1, .int .i64 0, .int .i64 0, .int .i64 1, .int .i64 0, .int .i64 0, .int .i64 1] 70); simpa using this
    refine ⟨by rw [hV0]; (repeat' (first | (with_reducible exact Below.refl _ _) | (with_reducible assumption) | (with_reducible refine Below.setCell ?_ ?_ _) | (with_reducible refine Below.alloc ?_ ?_ _) | (with_reducible refine below_drewN ?_ _) | (with_reducible refine Below.drew ?_) | (with_reducible exact Nat.le_refl _) | omega | (simp; done) | (simp; omega))), h1, ⟨?_, ?_, ?_, ?_⟩⟩
    · exact ⟨cellOf h2 0 rfl, cellOf h2 1 rfl, cellOf h2 2 rfl, frozOf h2 0, frozOf h2 1, frozOf h2 2, ltOf h2⟩
    · exact ⟨cellOf h2 3 rfl, cellOf h2 4 rfl, cellOf h2 5 rfl, frozOf h2 3, frozOf h2 4, frozOf h2 5, ltOf h2⟩
    · exact ⟨cellOf h2 6 rfl, cellOf h2 7 rfl, cellOf h2 8 rfl, frozOf h2 6, frozOf h2 7, frozOf h2 8, ltOf h2⟩
    · exact ⟨cellOf h2 9 rfl, cellOf h2 10 rfl, cellOf h2 11 rfl, frozOf h2 9, frozOf h2 10, frozOf h2 11, ltOf h2⟩
  have HKK : Hid (Kz = w2.heap.size ∧ K = w2.heap.size + 1) := ⟨hKz, hK⟩
  go_wp2
  rw [← hV0, ← hK, ← hKz]
  clear hV0 hKz hK
  go_loopw [8] (fun i wr => ∃ k : Nat, k ≤ n ∧ i = .int .i64 k ∧ Hid (Below w2.heap.size w2 wr ∧ wr.heap[Kz]? = some (.cells #[.int .i64 0, .int .i64 1] 31) ∧ A4 wr K (s0 (ckA L k)) (s0 (ckU L k)) (s0 (ckS s L k)) (s0 (ckT s L k)))) (fun i _ => n - (intOf i).toNat)
  case atStart => exact ⟨0, Nat.zero_le _, rfl, HV0.out⟩
  case round =>
    clear HV0
    obtain ⟨k, hk, rfl, hR⟩ := hrel
    by_cases hlt : k < n
    · have hjl : k < s.length := by rw [← H.out.2]; exact hlt
      obtain ⟨g, o, c2, he, hg, hj⟩ := H.out.1.pos (by omega)
      simp only [Value.slice.injEq] at he
      obtain ⟨rfl, hx1, hx2⟩ := he
      clear hx1 hx2
      obtain ⟨d0, d1, d2, d3⟩ := maC_at (hj k hjl)
      obtain ⟨mk, hmk⟩ : ∃ x, x = s[k] := ⟨_, rfl⟩
      rw [← hmk] at d0 d1 d2 d3
      have hmk2 : s.getD k mk0 = mk := by rw [List.getD_eq_getElem?_getD, List.getElem?_eq_getElem hjl, hmk]; rfl
      have hbd := (msF_ok HE.out.2.2.1).2.2 mk (by rw [hmk]; exact List.getElem_mem hjl)
      obtain ⟨lg, lo, rfl, hlg, e0, e1⟩ := getD_frS HW2.out.1 (j := 2 * k) (by rw [HE.out.2.1]; omega)
      obtain ⟨lg2, lo2, hl2, _, e2, e3⟩ := getD_frS HW2.out.1 (j := 2 * k + 1) (by rw [HE.out.2.1]; omega)
      injection hl2 with hl2
      injection hl2 with hl3 hl4
      subst hl3 hl4
      obtain ⟨X, hX⟩ : ∃ X, X = L.getD (2 * k) fr0 := ⟨_, rfl⟩
      obtain ⟨Y, hY⟩ : ∃ X, X = L.getD (2 * k + 1) fr0 := ⟨_, rfl⟩
      rw [← hX] at e0 e1
      rw [← hY] at e2 e3
      obtain ⟨R3, hR3⟩ : ∃ r, r = muQ X (whole mk.x) := ⟨_, rfl⟩
      obtain ⟨R4, hR4⟩ : ∃ r, r = muQ Y (whole mk.y) := ⟨_, rfl⟩
      obtain ⟨R5, hR5⟩ : ∃ r, r = muQ Y (whole mk.x) := ⟨_, rfl⟩
      obtain ⟨R6, hR6⟩ : ∃ r, r = muQ X (whole mk.y) := ⟨_, rfl⟩
      have HN : Hid (s0 (ckA L (k + 1)) = adA (s0 (ckA L k)) ⟨0, X.n, X.d⟩ ∧ s0 (ckU L (k + 1)) = adA (s0 (ckU L k)) ⟨0, Y.n, Y.d⟩ ∧ s0 (ckS s L (k + 1)) = adA (adA (s0 (ckS s L k)) R3) R4 ∧ s0 (ckT s L (k + 1)) = adA (adA (s0 (ckT s L k)) R5) R6.neg) := by
        rw [ckA_succ, ckU_succ, ckS_succ, ckT_succ, s0_one, s0_one, s0_two, s0_two, hmk2, ← hX, ← hY]
        refine ⟨?_, ?_, ?_, ?_⟩
        · rw [← muQ_one (by rw [hX]; exact HE.out.2.2.2 _ (by omega))]; rfl
        · rw [← muQ_one (by rw [hY]; exact HE.out.2.2.2 _ (by omega))]; rfl
        · rw [hR3, hR4]; rfl
        · rw [hR5, hR6, ← muQ_neg]; rfl
      have HR3 : Hid (∀ W, Calls Try.prog 37 #[.agg #[.int .i64 X.n, .int .i64 X.d], .agg #[.int .i64 mk.x, .int .i64 1]] W fun e w' => e = .returned (.agg #[.int .i64 (R3).c, .int .i64 (R3).n, .int .i64 (R3).d]) ∧ Below W.heap.size W w') := fun W => by rw [hR3]; exact spec_muQ X (whole mk.x) W
      have HR4 : Hid (∀ W, Calls Try.prog 37 #[.agg #[.int .i64 Y.n, .int .i64 Y.d], .agg #[.int .i64 mk.y, .int .i64 1]] W fun e w' => e = .returned (.agg #[.int .i64 (R4).c, .int .i64 (R4).n, .int .i64 (R4).d]) ∧ Below W.heap.size W w') := fun W => by rw [hR4]; exact spec_muQ Y (whole mk.y) W
      have HR5 : Hid (∀ W, Calls Try.prog 37 #[.agg #[.int .i64 Y.n, .int .i64 Y.d], .agg #[.int .i64 mk.x, .int .i64 1]] W fun e w' => e = .returned (.agg #[.int .i64 (R5).c, .int .i64 (R5).n, .int .i64 (R5).d]) ∧ Below W.heap.size W w') := fun W => by rw [hR5]; exact spec_muQ Y (whole mk.x) W
      have HR6 : Hid (∀ W, Calls Try.prog 37 #[.agg #[.int .i64 X.n, .int .i64 X.d], .agg #[.int .i64 mk.y, .int .i64 1]] W fun e w' => e = .returned (.agg #[.int .i64 (R6).c, .int .i64 (R6).n, .int .i64 (R6).d]) ∧ Below W.heap.size W w') := fun W => by rw [hR6]; exact spec_muQ X (whole mk.y) W
      have HRn6 : Hid (∀ W, Calls Try.prog 38 #[.agg #[.int .i64 (R6).c, .int .i64 (R6).n, .int .i64 (R6).d]] W fun e w' => e = .returned (.agg #[.int .i64 (R6.neg).c, .int .i64 (R6.neg).n, .int .i64 (R6.neg).d]) ∧ Below W.heap.size W w') := fun W => spec_less R6 (by rw [hR6]; exact muQ_bd _ _) W
      have hbw := HW2.out.2.1.trans (hR.out.1.mono HW2.out.2.1.size)
      have a0 := (hbw.cell (p := ⟨g, o + k * 4, none⟩) hg).trans d0
      have a1' := (hbw.cell (p := ⟨g, o + k * 4 + 1, none⟩) hg).trans d1
      have hgw : g < w2.heap.size := Nat.lt_of_lt_of_le hg HW2.out.2.1.size
      have f0 := (hR.out.1.cell (p := ⟨lg, lo + 2 * k * 2, none⟩) hlg).trans e0
      have f1 := (hR.out.1.cell (p := ⟨lg, lo + 2 * k * 2 + 1, none⟩) hlg).trans e1
      have f2 := (hR.out.1.cell (p := ⟨lg, lo + (2 * k + 1) * 2, none⟩) hlg).trans e2
      have f3 := (hR.out.1.cell (p := ⟨lg, lo + (2 * k + 1) * 2 + 1, none⟩) hlg).trans e3
      have hlw : lg < wr.heap.size := Nat.lt_of_lt_of_le hlg hR.out.1.size
      have jl := (hR.out.1.block _ (ltOf HW2.out.2.2.2)).trans HW2.out.2.2.2
      have l0 := cellOf jl 0 rfl
      have l1 := cellOf jl 1 rfl
      have ll := ltOf jl
      have hrn2 : (2 * (k : Int)) + 1 < (rn : Int) := by have e := HW2.out.2.2.1; rw [HE.out.2.1] at e; omega
      have hrn1 : (2 * (k : Int)) < (rn : Int) := by omega
      have HWr : Hid (Below w2.heap.size w2 wr ∧ wr.heap[Kz]? = some (.cells #[.int .i64 0, .int .i64 1] 31) ∧ A4 wr K (s0 (ckA L k)) (s0 (ckU L k)) (s0 (ckS s L k)) (s0 (ckT s L k))) := hR.out
      clear hR hj hmk hX hY d0 d1 d2 d3 e0 e1 e2 e3 hmk2 hbw jl hbd hR3 hR4 hR5 hR6 hg hlg
      obtain ⟨x, y, dx, dy⟩ := mk
      obtain ⟨Xn, Xd⟩ := X
      obtain ⟨Yn, Yd⟩ := Y
      obtain ⟨SA, hsa⟩ : ∃ l, l = s0 (ckA L k) := ⟨_, rfl⟩
      obtain ⟨SU, hsu⟩ : ∃ l, l = s0 (ckU L k) := ⟨_, rfl⟩
      obtain ⟨SS, hss⟩ : ∃ l, l = s0 (ckS s L k) := ⟨_, rfl⟩
      obtain ⟨ST, hst⟩ : ∃ l, l = s0 (ckT s L k) := ⟨_, rfl⟩
      rw [← hsa, ← hsu, ← hss, ← hst] at HN HWr
      clear hsa hsu hss hst
      have bb0 : (0 : Int) ≤ (k : Int) := by omega
      have bb1 : (k : Int) < (n : Int) := by omega
      obtain ⟨k2, hk2⟩ : ∃ j : Nat, j = 2 * k := ⟨_, rfl⟩
      obtain ⟨k3, hk3⟩ : ∃ j : Nat, j = 2 * k + 1 := ⟨_, rfl⟩
      have hw1 : IntKind.i64.wrap (2 * (k : Int)) = (k2 : Int) := by rw [hk2, IntKind.wrap_i64]; omega
      have hw2 : IntKind.i64.wrap ((k2 : Int) + 1) = (k3 : Int) := by rw [hk2, hk3, IntKind.wrap_i64]; omega
      rw [← hk2] at f0 f1
      rw [← hk3] at f2 f3
      have hr2 : (k2 : Int) < (rn : Int) := by omega
      have hr3 : (k3 : Int) < (rn : Int) := by omega
      have hr0 : (0 : Int) ≤ (k2 : Int) := by omega
      have hr1 : (0 : Int) ≤ (k3 : Int) := by omega
      clear hk2 hk3 hrn1 hrn2
      go_wp2_with (fail)
      obtain ⟨V, hV⟩ : ∃ V, V = (wr.alloc (.cells #[.int .i64 Xn, .int .i64 Xd] 31)).alloc (.cells #[.int .i64 Yn, .int .i64 Yd] 31) := ⟨_, rfl⟩
      rw [← hV]
      obtain ⟨Ky, hKy⟩ : ∃ K, K = wr.heap.size + 1 := ⟨_, rfl⟩
      obtain ⟨Kx, hKx⟩ : ∃ K, K = wr.heap.size := ⟨_, rfl⟩
      rw [← hKy, ← hKx]
      have hbV : Below wr.heap.size wr V := by rw [hV]; (repeat' (first | (with_reducible exact Below.refl _ _) | (with_reducible assumption) | (with_reducible refine Below.setCell ?_ ?_ _) | (with_reducible refine Below.alloc ?_ ?_ _) | (with_reducible refine below_drewN ?_ _) | (with_reducible refine Below.drew ?_) | (with_reducible exact Nat.le_refl _) | omega | (simp; done) | (simp; omega)))
      have jx : V.heap[Kx]? = some (.cells #[.int .i64 Xn, .int .i64 Xd] 31) := by rw [hV, hKx]; exact (Below.heap_alloc _ _ _ (by simp)).trans (heap_alloc_new wr _)
      have jy : V.heap[Ky]? = some (.cells #[.int .i64 Yn, .int .i64 Yd] 31) := by rw [hV, hKy]; have := heap_alloc_new (wr.alloc (.cells #[.int .i64 Xn, .int .i64 Xd] 31)) (.cells #[.int .i64 Yn, .int .i64 Yd] 31); simpa using this
      have x0 := cellOf jx 0 rfl
      have x1 := cellOf jx 1 rfl
      have hKxV := ltOf jx
      have y0 := cellOf jy 0 rfl
      have y1 := cellOf jy 1 rfl
      have hKyV := ltOf jy
      have hKw : K < wr.heap.size := HWr.out.2.2.a.lt
      have hKxK : Kx ≠ K := by omega
      have hKyK : Ky ≠ K := by omega
      have hgK : g ≠ K := by have := HKK.out; omega
      have hgr : g < wr.heap.size := Nat.lt_of_lt_of_le hgw HWr.out.1.size
      have m0 := (hbV.cell (p := ⟨g, o + k * 4, none⟩) hgr).trans a0
      have m1 := (hbV.cell (p := ⟨g, o + k * 4 + 1, none⟩) hgr).trans a1'
      have hgV : g < V.heap.size := Nat.lt_of_lt_of_le hgr hbV.size
      have HX0 : Hid (Chg K (K + 1) V V ∧ A4 V K SA SU SS ST) := ⟨Chg.refl _ _ _, HWr.out.2.2.below hbV⟩
      have HVB : Hid (Below w2.heap.size w2 V ∧ V.heap[Kz]? = some (.cells #[.int .i64 0, .int .i64 1] 31) ∧ Kz ≠ K ∧ w2.heap.size ≤ K) := ⟨HWr.out.1.trans (hbV.mono HWr.out.1.size), (hbV.block _ (ltOf HWr.out.2.1)).trans HWr.out.2.1, by have := HKK.out; omega, by have := HKK.out; omega⟩
      clear hV hKx hKy hbV jx jy HWr a0 a1' f0 f1 f2 f3 l0 l1 ll hlw hgw hgr hKw
      have t10 := (HX0.out.1.cell 0 hKxV hKxK).trans x0
      have t11 := (HX0.out.1.cell 1 hKxV hKxK).trans x1
      have t12 := (HX0.out.1.cell 0 hKyV hKyK).trans y0
      have t13 := (HX0.out.1.cell 1 hKyV hKyK).trans y1
      have t14 := (HX0.out.1.cell (o + k * 4) hgV hgK).trans m0
      have t15 := (HX0.out.1.cell (o + k * 4 + 1) hgV hgK).trans m1
      have hx1 : Kx < V.heap.size := Nat.lt_of_lt_of_le hKxV HX0.out.1.size
      have hy1 : Ky < V.heap.size := Nat.lt_of_lt_of_le hKyV HX0.out.1.size
      have hg1 : g < V.heap.size := Nat.lt_of_lt_of_le hgV HX0.out.1.size
      refine wp_region_holdsA (S := KG K V) (by kernel_rfl) (KG.of (Chg.of_below (Below.drew (Below.refl _ _)))) (fun hS => ?_)
      refine fl_takeA (i := 0) (d := 47) (v := .slice (some ⟨K, 0, none⟩) 4 4) rfl rfl rfl (by kernel_rfl) (by kernel_rfl) (by kernel_rfl) hS ?_ ?_
      · intro w' hk; unfold KG at hk; go_simp
      simp only [Act.put, List.setIfInBounds_toArray, List.set_cons_zero, List.set_cons_succ]
      refine fl_takeA (i := 1) (d := 48) (v := .pointer (some ⟨K, 0, none⟩)) rfl rfl rfl (by kernel_rfl) (by kernel_rfl) (by kernel_rfl) hS ?_ ?_
      · intro w' hk; unfold KG at hk; go_simp
      simp only [Act.put, List.setIfInBounds_toArray, List.set_cons_zero, List.set_cons_succ]
      refine fl_takeA (i := 2) (d := 49) (v := .agg #[.int .i64 Xn, .int .i64 Xd]) rfl rfl rfl (by kernel_rfl) (by kernel_rfl) (by kernel_rfl) hS ?_ ?_
      · intro w' hk; unfold KG at hk; go_simp
      simp only [Act.put, List.setIfInBounds_toArray, List.set_cons_zero, List.set_cons_succ]
      refine fl_takeA (i := 3) (d := 50) (v := .agg #[.int .i64 0, .int .i64 Xn, .int .i64 Xd]) rfl rfl rfl (by kernel_rfl) (by kernel_rfl) (by kernel_rfl) hS ?_ ?_
      · intro w' hk; unfold KG at hk; go_simp
      simp only [Act.put, List.setIfInBounds_toArray, List.set_cons_zero, List.set_cons_succ]
      have hL1 : Below V.heap.size V V.drew := (Below.refl _ _).drew
      have hA1 := HX0.out.2.below hL1
      refine wpAnyH_all (rs := [4]) (by kernel_rfl) (by simp) ?_
      intro i hi
      obtain rfl : i = 4 := by simpa using hi
      refine op_call (d := 51) rfl rfl rfl (by go_simp) ((spec_add (r := ⟨0, Xn, Xd⟩) hA1.a).mono ?_)
      rintro e W1 ⟨rfl, hD1⟩
      have hq19 := KG.of ((Chg.of_below hL1).trans hD1.chg)
      refine ⟨_, rfl, hq19, ?_⟩
      simp only [Act.put, List.setIfInBounds_toArray, List.set_cons_zero, List.set_cons_succ]
      refine wpAnyH_done (by kernel_rfl) (NoPanic.normal ?_) _
      obtain ⟨SA1, hSA1⟩ : ∃ z, z = adA SA ⟨0, Xn, Xd⟩ := ⟨_, rfl⟩
      have HX1 : Hid (Chg K (K + 1) V W1 ∧ A4 W1 K SA1 SU SS ST) := by
        rw [hSA1]; exact ⟨(HX0.out.1.trans (Chg.of_below hL1)).trans hD1.chg, hA1.set0 hD1⟩
      have HE1 : Hid (SA1 = adA SA ⟨0, Xn, Xd⟩) := hSA1
      clear hSA1 hD1 hq19 hA1 hS HX0 t10 t11 t12 t13 t14 t15 hx1 hy1 hg1 hL1
      go_wp2_with (fail)
      have t20 := (HX1.out.1.cell 0 hKxV hKxK).trans x0
      have t21 := (HX1.out.1.cell 1 hKxV hKxK).trans x1
      have t22 := (HX1.out.1.cell 0 hKyV hKyK).trans y0
      have t23 := (HX1.out.1.cell 1 hKyV hKyK).trans y1
      have t24 := (HX1.out.1.cell (o + k * 4) hgV hgK).trans m0
      have t25 := (HX1.out.1.cell (o + k * 4 + 1) hgV hgK).trans m1
      have hx2 : Kx < W1.heap.size := Nat.lt_of_lt_of_le hKxV HX1.out.1.size
      have hy2 : Ky < W1.heap.size := Nat.lt_of_lt_of_le hKyV HX1.out.1.size
      have hg2 : g < W1.heap.size := Nat.lt_of_lt_of_le hgV HX1.out.1.size
      refine wp_region_holdsA (S := KG K W1) (by kernel_rfl) (KG.of (Chg.of_below (Below.drew (Below.refl _ _)))) (fun hS => ?_)
      refine fl_takeA (i := 0) (d := 52) (v := .slice (some ⟨K, 0, none⟩) 4 4) rfl rfl rfl (by kernel_rfl) (by kernel_rfl) (by kernel_rfl) hS ?_ ?_
      · intro w' hk; unfold KG at hk; go_simp
      simp only [Act.put, List.setIfInBounds_toArray, List.set_cons_zero, List.set_cons_succ]
      refine fl_takeA (i := 1) (d := 53) (v := .pointer (some ⟨K, 3, none⟩)) rfl rfl rfl (by kernel_rfl) (by kernel_rfl) (by kernel_rfl) hS ?_ ?_
      · intro w' hk; unfold KG at hk; go_simp
      simp only [Act.put, List.setIfInBounds_toArray, List.set_cons_zero, List.set_cons_succ]
      refine fl_takeA (i := 2) (d := 54) (v := .agg #[.int .i64 Yn, .int .i64 Yd]) rfl rfl rfl (by kernel_rfl) (by kernel_rfl) (by kernel_rfl) hS ?_ ?_
      · intro w' hk; unfold KG at hk; go_simp
      simp only [Act.put, List.setIfInBounds_toArray, List.set_cons_zero, List.set_cons_succ]
      refine fl_takeA (i := 3) (d := 55) (v := .agg #[.int .i64 0, .int .i64 Yn, .int .i64 Yd]) rfl rfl rfl (by kernel_rfl) (by kernel_rfl) (by kernel_rfl) hS ?_ ?_
      · intro w' hk; unfold KG at hk; go_simp
      simp only [Act.put, List.setIfInBounds_toArray, List.set_cons_zero, List.set_cons_succ]
      have hL2 : Below W1.heap.size W1 W1.drew := (Below.refl _ _).drew
      have hA2 := HX1.out.2.below hL2
      refine wpAnyH_all (rs := [4]) (by kernel_rfl) (by simp) ?_
      intro i hi
      obtain rfl : i = 4 := by simpa using hi
      refine op_call (d := 56) rfl rfl rfl (by go_simp) ((spec_add (r := ⟨0, Yn, Yd⟩) hA2.b).mono ?_)
      rintro e W2 ⟨rfl, hD2⟩
      have hq29 := KG.of ((Chg.of_below hL2).trans hD2.chg)
      refine ⟨_, rfl, hq29, ?_⟩
      simp only [Act.put, List.setIfInBounds_toArray, List.set_cons_zero, List.set_cons_succ]
      refine wpAnyH_done (by kernel_rfl) (NoPanic.normal ?_) _
      obtain ⟨SU1, hSU1⟩ : ∃ z, z = adA SU ⟨0, Yn, Yd⟩ := ⟨_, rfl⟩
      have HX2 : Hid (Chg K (K + 1) V W2 ∧ A4 W2 K SA1 SU1 SS ST) := by
        rw [hSU1]; exact ⟨(HX1.out.1.trans (Chg.of_below hL2)).trans hD2.chg, hA2.set3 hD2⟩
      have HE2 : Hid (SU1 = adA SU ⟨0, Yn, Yd⟩) := hSU1
      clear hSU1 hD2 hq29 hA2 hS HX1 t20 t21 t22 t23 t24 t25 hx2 hy2 hg2 hL2
      go_wp2_with (fail)
      have t30 := (HX2.out.1.cell 0 hKxV hKxK).trans x0
      have t31 := (HX2.out.1.cell 1 hKxV hKxK).trans x1
      have t32 := (HX2.out.1.cell 0 hKyV hKyK).trans y0
      have t33 := (HX2.out.1.cell 1 hKyV hKyK).trans y1
      have t34 := (HX2.out.1.cell (o + k * 4) hgV hgK).trans m0
      have t35 := (HX2.out.1.cell (o + k * 4 + 1) hgV hgK).trans m1
      have hx3 : Kx < W2.heap.size := Nat.lt_of_lt_of_le hKxV HX2.out.1.size
      have hy3 : Ky < W2.heap.size := Nat.lt_of_lt_of_le hKyV HX2.out.1.size
      have hg3 : g < W2.heap.size := Nat.lt_of_lt_of_le hgV HX2.out.1.size
      refine wp_region_holdsA (S := KG K W2) (by kernel_rfl) (KG.of (Chg.of_below (Below.drew (Below.refl _ _)))) (fun hS => ?_)
      refine fl_takeA (i := 0) (d := 57) (v := .slice (some ⟨K, 0, none⟩) 4 4) rfl rfl rfl (by kernel_rfl) (by kernel_rfl) (by kernel_rfl) hS ?_ ?_
      · intro w' hk; unfold KG at hk; go_simp
      simp only [Act.put, List.setIfInBounds_toArray, List.set_cons_zero, List.set_cons_succ]
      refine fl_takeA (i := 1) (d := 58) (v := .pointer (some ⟨K, 6, none⟩)) rfl rfl rfl (by kernel_rfl) (by kernel_rfl) (by kernel_rfl) hS ?_ ?_
      · intro w' hk; unfold KG at hk; go_simp
      simp only [Act.put, List.setIfInBounds_toArray, List.set_cons_zero, List.set_cons_succ]
      refine fl_takeA (i := 2) (d := 59) (v := .agg #[.int .i64 Xn, .int .i64 Xd]) rfl rfl rfl (by kernel_rfl) (by kernel_rfl) (by kernel_rfl) hS ?_ ?_
      · intro w' hk; unfold KG at hk; go_simp
      simp only [Act.put, List.setIfInBounds_toArray, List.set_cons_zero, List.set_cons_succ]
      refine fl_takeA (i := 3) (d := 60) (v := .slice (some ⟨g, o, none⟩) n c) rfl rfl rfl (by kernel_rfl) (by kernel_rfl) (by kernel_rfl) hS ?_ ?_
      · intro w' hk; unfold KG at hk; go_simp
      simp only [Act.put, List.setIfInBounds_toArray, List.set_cons_zero, List.set_cons_succ]
      refine fl_takeA (i := 4) (d := 61) (v := .int .i64 (k : Int)) rfl rfl rfl (by kernel_rfl) (by kernel_rfl) (by kernel_rfl) hS ?_ ?_
      · intro w' hk; unfold KG at hk; go_simp
      simp only [Act.put, List.setIfInBounds_toArray, List.set_cons_zero, List.set_cons_succ]
      refine fl_takeA (i := 5) (d := 62) (v := .pointer (some ⟨g, o + k * 4, none⟩)) rfl rfl rfl (by kernel_rfl) (by kernel_rfl) (by kernel_rfl) hS ?_ ?_
      · intro w' hk; unfold KG at hk; go_simp
      simp only [Act.put, List.setIfInBounds_toArray, List.set_cons_zero, List.set_cons_succ]
      refine fl_takeA (i := 6) (d := 63) (v := .pointer (some ⟨g, o + k * 4, none⟩)) rfl rfl rfl (by kernel_rfl) (by kernel_rfl) (by kernel_rfl) hS ?_ ?_
      · intro w' hk; unfold KG at hk; go_simp
      simp only [Act.put, List.setIfInBounds_toArray, List.set_cons_zero, List.set_cons_succ]
      refine fl_takeA (i := 7) (d := 64) (v := .int .i64 x) rfl rfl rfl (by kernel_rfl) (by kernel_rfl) (by kernel_rfl) hS ?_ ?_
      · intro w' hk; unfold KG at hk; go_simp
      simp only [Act.put, List.setIfInBounds_toArray, List.set_cons_zero, List.set_cons_succ]
      refine wpAnyH_all (rs := [8]) (by kernel_rfl) (by simp) ?_
      intro i hi
      obtain rfl : i = 8 := by simpa using hi
      refine op_call (d := 65) rfl rfl rfl (by go_simp) ((spec_int x _).mono ?_)
      rintro e p31 ⟨rfl, hp31⟩
      have hL31 : Below W2.heap.size W2 p31 := ((Below.refl _ _).drew).trans hp31
      have hq31 := KG.of (G := K) (Chg.of_below hL31)
      refine ⟨_, rfl, hq31, ?_⟩
      simp only [Act.put, List.setIfInBounds_toArray, List.set_cons_zero, List.set_cons_succ]
      refine wpAnyH_all (rs := [9]) (by kernel_rfl) (by simp) ?_
      intro i hi
      obtain rfl : i = 9 := by simpa using hi
      refine op_call (d := 66) rfl rfl rfl (by go_simp) ((HR3.out _).mono ?_)
      rintro e p32 ⟨rfl, hp32⟩
      have hL32 : Below W2.heap.size W2 p32 := hL31.trans (hp32.mono hL31.size)
      have hq32 := KG.of (G := K) (Chg.of_below hL32)
      refine ⟨_, rfl, hq32, ?_⟩
      simp only [Act.put, List.setIfInBounds_toArray, List.set_cons_zero, List.set_cons_succ]
      have hA3 := HX2.out.2.below hL32
      refine wpAnyH_all (rs := [10]) (by kernel_rfl) (by simp) ?_
      intro i hi
      obtain rfl : i = 10 := by simpa using hi
      refine op_call (d := 67) rfl rfl rfl (by go_simp) ((spec_add (r := R3) hA3.c).mono ?_)
      rintro e W3 ⟨rfl, hD3⟩
      have hq39 := KG.of ((Chg.of_below hL32).trans hD3.chg)
      refine ⟨_, rfl, hq39, ?_⟩
      simp only [Act.put, List.setIfInBounds_toArray, List.set_cons_zero, List.set_cons_succ]
      refine wpAnyH_done (by kernel_rfl) (NoPanic.normal ?_) _
      obtain ⟨SS1, hSS1⟩ : ∃ z, z = adA SS R3 := ⟨_, rfl⟩
      have HX3 : Hid (Chg K (K + 1) V W3 ∧ A4 W3 K SA1 SU1 SS1 ST) := by
        rw [hSS1]; exact ⟨(HX2.out.1.trans (Chg.of_below hL32)).trans hD3.chg, hA3.set6 hD3⟩
      have HE3 : Hid (SS1 = adA SS R3) := hSS1
      clear hSS1 hD3 hq39 hA3 hS HX2 t30 t31 t32 t33 t34 t35 hx3 hy3 hg3 hL31 hp31 hq31 hL32 hp32 hq32
      go_wp2_with (fail)
      have t40 := (HX3.out.1.cell 0 hKxV hKxK).trans x0
      have t41 := (HX3.out.1.cell 1 hKxV hKxK).trans x1
      have t42 := (HX3.out.1.cell 0 hKyV hKyK).trans y0
      have t43 := (HX3.out.1.cell 1 hKyV hKyK).trans y1
      have t44 := (HX3.out.1.cell (o + k * 4) hgV hgK).trans m0
      have t45 := (HX3.out.1.cell (o + k * 4 + 1) hgV hgK).trans m1
      have hx4 : Kx < W3.heap.size := Nat.lt_of_lt_of_le hKxV HX3.out.1.size
      have hy4 : Ky < W3.heap.size := Nat.lt_of_lt_of_le hKyV HX3.out.1.size
      have hg4 : g < W3.heap.size := Nat.lt_of_lt_of_le hgV HX3.out.1.size
      refine wp_region_holdsA (S := KG K W3) (by kernel_rfl) (KG.of (Chg.of_below (Below.drew (Below.refl _ _)))) (fun hS => ?_)
      refine fl_takeA (i := 0) (d := 68) (v := .slice (some ⟨K, 0, none⟩) 4 4) rfl rfl rfl (by kernel_rfl) (by kernel_rfl) (by kernel_rfl) hS ?_ ?_
      · intro w' hk; unfold KG at hk; go_simp
      simp only [Act.put, List.setIfInBounds_toArray, List.set_cons_zero, List.set_cons_succ]
      refine fl_takeA (i := 1) (d := 69) (v := .pointer (some ⟨K, 6, none⟩)) rfl rfl rfl (by kernel_rfl) (by kernel_rfl) (by kernel_rfl) hS ?_ ?_
      · intro w' hk; unfold KG at hk; go_simp
      simp only [Act.put, List.setIfInBounds_toArray, List.set_cons_zero, List.set_cons_succ]
      refine fl_takeA (i := 2) (d := 70) (v := .agg #[.int .i64 Yn, .int .i64 Yd]) rfl rfl rfl (by kernel_rfl) (by kernel_rfl) (by kernel_rfl) hS ?_ ?_
      · intro w' hk; unfold KG at hk; go_simp
      simp only [Act.put, List.setIfInBounds_toArray, List.set_cons_zero, List.set_cons_succ]
      refine fl_takeA (i := 3) (d := 71) (v := .slice (some ⟨g, o, none⟩) n c) rfl rfl rfl (by kernel_rfl) (by kernel_rfl) (by kernel_rfl) hS ?_ ?_
      · intro w' hk; unfold KG at hk; go_simp
      simp only [Act.put, List.setIfInBounds_toArray, List.set_cons_zero, List.set_cons_succ]
      refine fl_takeA (i := 4) (d := 72) (v := .int .i64 (k : Int)) rfl rfl rfl (by kernel_rfl) (by kernel_rfl) (by kernel_rfl) hS ?_ ?_
      · intro w' hk; unfold KG at hk; go_simp
      simp only [Act.put, List.setIfInBounds_toArray, List.set_cons_zero, List.set_cons_succ]
      refine fl_takeA (i := 5) (d := 73) (v := .pointer (some ⟨g, o + k * 4, none⟩)) rfl rfl rfl (by kernel_rfl) (by kernel_rfl) (by kernel_rfl) hS ?_ ?_
      · intro w' hk; unfold KG at hk; go_simp
      simp only [Act.put, List.setIfInBounds_toArray, List.set_cons_zero, List.set_cons_succ]
      refine fl_takeA (i := 6) (d := 74) (v := .pointer (some ⟨g, o + k * 4 + 1, none⟩)) rfl rfl rfl (by kernel_rfl) (by kernel_rfl) (by kernel_rfl) hS ?_ ?_
      · intro w' hk; unfold KG at hk; go_simp
      simp only [Act.put, List.setIfInBounds_toArray, List.set_cons_zero, List.set_cons_succ]
      refine fl_takeA (i := 7) (d := 75) (v := .int .i64 y) rfl rfl rfl (by kernel_rfl) (by kernel_rfl) (by kernel_rfl) hS ?_ ?_
      · intro w' hk; unfold KG at hk; go_simp
      simp only [Act.put, List.setIfInBounds_toArray, List.set_cons_zero, List.set_cons_succ]
      refine wpAnyH_all (rs := [8]) (by kernel_rfl) (by simp) ?_
      intro i hi
      obtain rfl : i = 8 := by simpa using hi
      refine op_call (d := 76) rfl rfl rfl (by go_simp) ((spec_int y _).mono ?_)
      rintro e p41 ⟨rfl, hp41⟩
      have hL41 : Below W3.heap.size W3 p41 := ((Below.refl _ _).drew).trans hp41
      have hq41 := KG.of (G := K) (Chg.of_below hL41)
      refine ⟨_, rfl, hq41, ?_⟩
      simp only [Act.put, List.setIfInBounds_toArray, List.set_cons_zero, List.set_cons_succ]
      refine wpAnyH_all (rs := [9]) (by kernel_rfl) (by simp) ?_
      intro i hi
      obtain rfl : i = 9 := by simpa using hi
      refine op_call (d := 77) rfl rfl rfl (by go_simp) ((HR4.out _).mono ?_)
      rintro e p42 ⟨rfl, hp42⟩
      have hL42 : Below W3.heap.size W3 p42 := hL41.trans (hp42.mono hL41.size)
      have hq42 := KG.of (G := K) (Chg.of_below hL42)
      refine ⟨_, rfl, hq42, ?_⟩
      simp only [Act.put, List.setIfInBounds_toArray, List.set_cons_zero, List.set_cons_succ]
      have hA4 := HX3.out.2.below hL42
      refine wpAnyH_all (rs := [10]) (by kernel_rfl) (by simp) ?_
      intro i hi
      obtain rfl : i = 10 := by simpa using hi
      refine op_call (d := 78) rfl rfl rfl (by go_simp) ((spec_add (r := R4) hA4.c).mono ?_)
      rintro e W4 ⟨rfl, hD4⟩
      have hq49 := KG.of ((Chg.of_below hL42).trans hD4.chg)
      refine ⟨_, rfl, hq49, ?_⟩
      simp only [Act.put, List.setIfInBounds_toArray, List.set_cons_zero, List.set_cons_succ]
      refine wpAnyH_done (by kernel_rfl) (NoPanic.normal ?_) _
      obtain ⟨SS2, hSS2⟩ : ∃ z, z = adA SS1 R4 := ⟨_, rfl⟩
      have HX4 : Hid (Chg K (K + 1) V W4 ∧ A4 W4 K SA1 SU1 SS2 ST) := by
        rw [hSS2]; exact ⟨(HX3.out.1.trans (Chg.of_below hL42)).trans hD4.chg, hA4.set6 hD4⟩
      have HE4 : Hid (SS2 = adA SS1 R4) := hSS2
      clear hSS2 hD4 hq49 hA4 hS HX3 t40 t41 t42 t43 t44 t45 hx4 hy4 hg4 hL41 hp41 hq41 hL42 hp42 hq42
      go_wp2_with (fail)
      have t50 := (HX4.out.1.cell 0 hKxV hKxK).trans x0
      have t51 := (HX4.out.1.cell 1 hKxV hKxK).trans x1
      have t52 := (HX4.out.1.cell 0 hKyV hKyK).trans y0
      have t53 := (HX4.out.1.cell 1 hKyV hKyK).trans y1
      have t54 := (HX4.out.1.cell (o + k * 4) hgV hgK).trans m0
      have t55 := (HX4.out.1.cell (o + k * 4 + 1) hgV hgK).trans m1
      have hx5 : Kx < W4.heap.size := Nat.lt_of_lt_of_le hKxV HX4.out.1.size
      have hy5 : Ky < W4.heap.size := Nat.lt_of_lt_of_le hKyV HX4.out.1.size
      have hg5 : g < W4.heap.size := Nat.lt_of_lt_of_le hgV HX4.out.1.size
      refine wp_region_holdsA (S := KG K W4) (by kernel_rfl) (KG.of (Chg.of_below (Below.drew (Below.refl _ _)))) (fun hS => ?_)
      refine fl_takeA (i := 0) (d := 79) (v := .slice (some ⟨K, 0, none⟩) 4 4) rfl rfl rfl (by kernel_rfl) (by kernel_rfl) (by kernel_rfl) hS ?_ ?_
      · intro w' hk; unfold KG at hk; go_simp
      simp only [Act.put, List.setIfInBounds_toArray, List.set_cons_zero, List.set_cons_succ]
      refine fl_takeA (i := 1) (d := 80) (v := .pointer (some ⟨K, 9, none⟩)) rfl rfl rfl (by kernel_rfl) (by kernel_rfl) (by kernel_rfl) hS ?_ ?_
      · intro w' hk; unfold KG at hk; go_simp
      simp only [Act.put, List.setIfInBounds_toArray, List.set_cons_zero, List.set_cons_succ]
      refine fl_takeA (i := 2) (d := 81) (v := .agg #[.int .i64 Yn, .int .i64 Yd]) rfl rfl rfl (by kernel_rfl) (by kernel_rfl) (by kernel_rfl) hS ?_ ?_
      · intro w' hk; unfold KG at hk; go_simp
      simp only [Act.put, List.setIfInBounds_toArray, List.set_cons_zero, List.set_cons_succ]
      refine fl_takeA (i := 3) (d := 82) (v := .slice (some ⟨g, o, none⟩) n c) rfl rfl rfl (by kernel_rfl) (by kernel_rfl) (by kernel_rfl) hS ?_ ?_
      · intro w' hk; unfold KG at hk; go_simp
      simp only [Act.put, List.setIfInBounds_toArray, List.set_cons_zero, List.set_cons_succ]
      refine fl_takeA (i := 4) (d := 83) (v := .int .i64 (k : Int)) rfl rfl rfl (by kernel_rfl) (by kernel_rfl) (by kernel_rfl) hS ?_ ?_
      · intro w' hk; unfold KG at hk; go_simp
      simp only [Act.put, List.setIfInBounds_toArray, List.set_cons_zero, List.set_cons_succ]
      refine fl_takeA (i := 5) (d := 84) (v := .pointer (some ⟨g, o + k * 4, none⟩)) rfl rfl rfl (by kernel_rfl) (by kernel_rfl) (by kernel_rfl) hS ?_ ?_
      · intro w' hk; unfold KG at hk; go_simp
      simp only [Act.put, List.setIfInBounds_toArray, List.set_cons_zero, List.set_cons_succ]
      refine fl_takeA (i := 6) (d := 85) (v := .pointer (some ⟨g, o + k * 4, none⟩)) rfl rfl rfl (by kernel_rfl) (by kernel_rfl) (by kernel_rfl) hS ?_ ?_
      · intro w' hk; unfold KG at hk; go_simp
      simp only [Act.put, List.setIfInBounds_toArray, List.set_cons_zero, List.set_cons_succ]
      refine fl_takeA (i := 7) (d := 86) (v := .int .i64 x) rfl rfl rfl (by kernel_rfl) (by kernel_rfl) (by kernel_rfl) hS ?_ ?_
      · intro w' hk; unfold KG at hk; go_simp
      simp only [Act.put, List.setIfInBounds_toArray, List.set_cons_zero, List.set_cons_succ]
      refine wpAnyH_all (rs := [8]) (by kernel_rfl) (by simp) ?_
      intro i hi
      obtain rfl : i = 8 := by simpa using hi
      refine op_call (d := 87) rfl rfl rfl (by go_simp) ((spec_int x _).mono ?_)
      rintro e p51 ⟨rfl, hp51⟩
      have hL51 : Below W4.heap.size W4 p51 := ((Below.refl _ _).drew).trans hp51
      have hq51 := KG.of (G := K) (Chg.of_below hL51)
      refine ⟨_, rfl, hq51, ?_⟩
      simp only [Act.put, List.setIfInBounds_toArray, List.set_cons_zero, List.set_cons_succ]
      refine wpAnyH_all (rs := [9]) (by kernel_rfl) (by simp) ?_
      intro i hi
      obtain rfl : i = 9 := by simpa using hi
      refine op_call (d := 88) rfl rfl rfl (by go_simp) ((HR5.out _).mono ?_)
      rintro e p52 ⟨rfl, hp52⟩
      have hL52 : Below W4.heap.size W4 p52 := hL51.trans (hp52.mono hL51.size)
      have hq52 := KG.of (G := K) (Chg.of_below hL52)
      refine ⟨_, rfl, hq52, ?_⟩
      simp only [Act.put, List.setIfInBounds_toArray, List.set_cons_zero, List.set_cons_succ]
      have hA5 := HX4.out.2.below hL52
      refine wpAnyH_all (rs := [10]) (by kernel_rfl) (by simp) ?_
      intro i hi
      obtain rfl : i = 10 := by simpa using hi
      refine op_call (d := 89) rfl rfl rfl (by go_simp) ((spec_add (r := R5) hA5.d).mono ?_)
      rintro e W5 ⟨rfl, hD5⟩
      have hq59 := KG.of ((Chg.of_below hL52).trans hD5.chg)
      refine ⟨_, rfl, hq59, ?_⟩
      simp only [Act.put, List.setIfInBounds_toArray, List.set_cons_zero, List.set_cons_succ]
      refine wpAnyH_done (by kernel_rfl) (NoPanic.normal ?_) _
      obtain ⟨ST1, hST1⟩ : ∃ z, z = adA ST R5 := ⟨_, rfl⟩
      have HX5 : Hid (Chg K (K + 1) V W5 ∧ A4 W5 K SA1 SU1 SS2 ST1) := by
        rw [hST1]; exact ⟨(HX4.out.1.trans (Chg.of_below hL52)).trans hD5.chg, hA5.set9 hD5⟩
      have HE5 : Hid (ST1 = adA ST R5) := hST1
      clear hST1 hD5 hq59 hA5 hS HX4 t50 t51 t52 t53 t54 t55 hx5 hy5 hg5 hL51 hp51 hq51 hL52 hp52 hq52
      go_wp2_with (fail)
      have t60 := (HX5.out.1.cell 0 hKxV hKxK).trans x0
      have t61 := (HX5.out.1.cell 1 hKxV hKxK).trans x1
      have t62 := (HX5.out.1.cell 0 hKyV hKyK).trans y0
      have t63 := (HX5.out.1.cell 1 hKyV hKyK).trans y1
      have t64 := (HX5.out.1.cell (o + k * 4) hgV hgK).trans m0
      have t65 := (HX5.out.1.cell (o + k * 4 + 1) hgV hgK).trans m1
      have hx6 : Kx < W5.heap.size := Nat.lt_of_lt_of_le hKxV HX5.out.1.size
      have hy6 : Ky < W5.heap.size := Nat.lt_of_lt_of_le hKyV HX5.out.1.size
      have hg6 : g < W5.heap.size := Nat.lt_of_lt_of_le hgV HX5.out.1.size
      refine wp_region_holdsA (S := KG K W5) (by kernel_rfl) (KG.of (Chg.of_below (Below.drew (Below.refl _ _)))) (fun hS => ?_)
      refine fl_takeA (i := 0) (d := 90) (v := .slice (some ⟨K, 0, none⟩) 4 4) rfl rfl rfl (by kernel_rfl) (by kernel_rfl) (by kernel_rfl) hS ?_ ?_
      · intro w' hk; unfold KG at hk; go_simp
      simp only [Act.put, List.setIfInBounds_toArray, List.set_cons_zero, List.set_cons_succ]
      refine fl_takeA (i := 1) (d := 91) (v := .pointer (some ⟨K, 9, none⟩)) rfl rfl rfl (by kernel_rfl) (by kernel_rfl) (by kernel_rfl) hS ?_ ?_
      · intro w' hk; unfold KG at hk; go_simp
      simp only [Act.put, List.setIfInBounds_toArray, List.set_cons_zero, List.set_cons_succ]
      refine fl_takeA (i := 2) (d := 92) (v := .agg #[.int .i64 Xn, .int .i64 Xd]) rfl rfl rfl (by kernel_rfl) (by kernel_rfl) (by kernel_rfl) hS ?_ ?_
      · intro w' hk; unfold KG at hk; go_simp
      simp only [Act.put, List.setIfInBounds_toArray, List.set_cons_zero, List.set_cons_succ]
      refine fl_takeA (i := 3) (d := 93) (v := .slice (some ⟨g, o, none⟩) n c) rfl rfl rfl (by kernel_rfl) (by kernel_rfl) (by kernel_rfl) hS ?_ ?_
      · intro w' hk; unfold KG at hk; go_simp
      simp only [Act.put, List.setIfInBounds_toArray, List.set_cons_zero, List.set_cons_succ]
      refine fl_takeA (i := 4) (d := 94) (v := .int .i64 (k : Int)) rfl rfl rfl (by kernel_rfl) (by kernel_rfl) (by kernel_rfl) hS ?_ ?_
      · intro w' hk; unfold KG at hk; go_simp
      simp only [Act.put, List.setIfInBounds_toArray, List.set_cons_zero, List.set_cons_succ]
      refine fl_takeA (i := 5) (d := 95) (v := .pointer (some ⟨g, o + k * 4, none⟩)) rfl rfl rfl (by kernel_rfl) (by kernel_rfl) (by kernel_rfl) hS ?_ ?_
      · intro w' hk; unfold KG at hk; go_simp
      simp only [Act.put, List.setIfInBounds_toArray, List.set_cons_zero, List.set_cons_succ]
      refine fl_takeA (i := 6) (d := 96) (v := .pointer (some ⟨g, o + k * 4 + 1, none⟩)) rfl rfl rfl (by kernel_rfl) (by kernel_rfl) (by kernel_rfl) hS ?_ ?_
      · intro w' hk; unfold KG at hk; go_simp
      simp only [Act.put, List.setIfInBounds_toArray, List.set_cons_zero, List.set_cons_succ]
      refine fl_takeA (i := 7) (d := 97) (v := .int .i64 y) rfl rfl rfl (by kernel_rfl) (by kernel_rfl) (by kernel_rfl) hS ?_ ?_
      · intro w' hk; unfold KG at hk; go_simp
      simp only [Act.put, List.setIfInBounds_toArray, List.set_cons_zero, List.set_cons_succ]
      refine wpAnyH_all (rs := [8]) (by kernel_rfl) (by simp) ?_
      intro i hi
      obtain rfl : i = 8 := by simpa using hi
      refine op_call (d := 98) rfl rfl rfl (by go_simp) ((spec_int y _).mono ?_)
      rintro e p61 ⟨rfl, hp61⟩
      have hL61 : Below W5.heap.size W5 p61 := ((Below.refl _ _).drew).trans hp61
      have hq61 := KG.of (G := K) (Chg.of_below hL61)
      refine ⟨_, rfl, hq61, ?_⟩
      simp only [Act.put, List.setIfInBounds_toArray, List.set_cons_zero, List.set_cons_succ]
      refine wpAnyH_all (rs := [9]) (by kernel_rfl) (by simp) ?_
      intro i hi
      obtain rfl : i = 9 := by simpa using hi
      refine op_call (d := 99) rfl rfl rfl (by go_simp) ((HR6.out _).mono ?_)
      rintro e p62 ⟨rfl, hp62⟩
      have hL62 : Below W5.heap.size W5 p62 := hL61.trans (hp62.mono hL61.size)
      have hq62 := KG.of (G := K) (Chg.of_below hL62)
      refine ⟨_, rfl, hq62, ?_⟩
      simp only [Act.put, List.setIfInBounds_toArray, List.set_cons_zero, List.set_cons_succ]
      refine wpAnyH_all (rs := [10]) (by kernel_rfl) (by simp) ?_
      intro i hi
      obtain rfl : i = 10 := by simpa using hi
      refine op_call (d := 100) rfl rfl rfl (by go_simp) ((HRn6.out _).mono ?_)
      rintro e p63 ⟨rfl, hp63⟩
      have hL63 : Below W5.heap.size W5 p63 := hL62.trans (hp63.mono hL62.size)
      have hq63 := KG.of (G := K) (Chg.of_below hL63)
      refine ⟨_, rfl, hq63, ?_⟩
      simp only [Act.put, List.setIfInBounds_toArray, List.set_cons_zero, List.set_cons_succ]
      have hA6 := HX5.out.2.below hL63
      refine wpAnyH_all (rs := [11]) (by kernel_rfl) (by simp) ?_
      intro i hi
      obtain rfl : i = 11 := by simpa using hi
      refine op_call (d := 101) rfl rfl rfl (by go_simp) ((spec_add (r := R6.neg) hA6.d).mono ?_)
      rintro e W6 ⟨rfl, hD6⟩
      have hq69 := KG.of ((Chg.of_below hL63).trans hD6.chg)
      refine ⟨_, rfl, hq69, ?_⟩
      simp only [Act.put, List.setIfInBounds_toArray, List.set_cons_zero, List.set_cons_succ]
      refine wpAnyH_done (by kernel_rfl) (NoPanic.normal ?_) _
      obtain ⟨ST2, hST2⟩ : ∃ z, z = adA ST1 R6.neg := ⟨_, rfl⟩
      have HX6 : Hid (Chg K (K + 1) V W6 ∧ A4 W6 K SA1 SU1 SS2 ST2) := by
        rw [hST2]; exact ⟨(HX5.out.1.trans (Chg.of_below hL63)).trans hD6.chg, hA6.set9 hD6⟩
      have HE6 : Hid (ST2 = adA ST1 R6.neg) := hST2
      clear hST2 hD6 hq69 hA6 hS HX5 t60 t61 t62 t63 t64 t65 hx6 hy6 hg6 hL61 hp61 hq61 hL62 hp62 hq62 hL63 hp63 hq63
      have HF : Hid (Below w2.heap.size w2 W6 ∧ W6.heap[Kz]? = some (.cells #[.int .i64 0, .int .i64 1] 31) ∧ A4 W6 K (s0 (ckA L (k + 1))) (s0 (ckU L (k + 1))) (s0 (ckS s L (k + 1))) (s0 (ckT s L (k + 1)))) := by
        refine ⟨?_, ?_, ?_⟩
        · exact HVB.out.1.trans (HX6.out.1.below HVB.out.2.2.2 HVB.out.1.size)
        · exact (HX6.out.1.block _ (ltOf HVB.out.2.1) (by have := HVB.out.2.2.1; omega)).trans HVB.out.2.1
        · rw [HN.out.1, HN.out.2.1, HN.out.2.2.1, HN.out.2.2.2, ← HE1.out, ← HE2.out, ← HE3.out, ← HE4.out, ← HE5.out, ← HE6.out]
          exact HX6.out.2
      clear HX6 HN HE1 HE2 HE3 HE4 HE5 HE6 HVB x0 x1 y0 y1 m0 m1 hKxV hKyV hgV hKxK hKyK hgK
      go_wp2
      go_roundw
      case rel => exact ⟨k + 1, by omega, by go_num, HF.out⟩
      case measure => simp [intOf]; omega
    · have hkn : k = s.length := by rw [← H.out.2]; omega
      obtain ⟨SA, hsa⟩ : ∃ l, l = s0 (ckA L k) := ⟨_, rfl⟩
      obtain ⟨SU, hsu⟩ : ∃ l, l = s0 (ckU L k) := ⟨_, rfl⟩
      obtain ⟨SS, hss⟩ : ∃ l, l = s0 (ckS s L k) := ⟨_, rfl⟩
      obtain ⟨ST, hst⟩ : ∃ l, l = s0 (ckT s L k) := ⟨_, rfl⟩
      have HZ : Hid (Q = rst (acF SA SU SS ST) 0 4) := by
        unfold Hid; rw [HQ.out, cfB_ok HE.out.1, ← HL.out.2.1, ← hkn, ← hsa, ← hsu, ← hss, ← hst]
        show _ = (isN SA && (isN SU && (isN SS && (isN ST && true))))
        rw [Bool.and_true, Bool.and_assoc, Bool.and_assoc]
      have HWr : Hid (Below w.heap.size w wr ∧ wr.heap[Kz]? = some (.cells #[.int .i64 0, .int .i64 1] 31) ∧ A4 wr K SA SU SS ST) := by
        refine ⟨HW2.out.2.1.trans (hR.out.1.mono HW2.out.2.1.size), hR.out.2.1, ?_⟩
        rw [hsa, hsu, hss, hst]; exact hR.out.2.2
      obtain ⟨W0, hW0⟩ : ∃ W, W = wr := ⟨_, rfl⟩
      rw [← hW0] at HWr ⊢
      clear hR hsa hsu hss hst hkn hW0
      have HAT : Hid (∀ W, Below W0.heap.size W0 W → (∀ j, j < 4 → AC W K (j * 3) (acF SA SU SS ST j)) ∧ W.cell? ⟨Kz, 0, none⟩ = some (.int .i64 0) ∧ W.cell? ⟨Kz, 1, none⟩ = some (.int .i64 1) ∧ Kz < W.heap.size ∧ Below w.heap.size w W) := fun W hW => by
        have jz := (hW.block _ (ltOf HWr.out.2.1)).trans HWr.out.2.1
        exact ⟨fun j hj => (HWr.out.2.2.below hW).at hj, cellOf jz 0 rfl, cellOf jz 1 rfl, ltOf jz, HWr.out.1.trans (hW.mono HWr.out.1.size)⟩
      clear HWr
      generalize acF SA SU SS ST = F at HZ HAT
      go_wp2
      go_loopw [11] (fun i wr => ∃ j : Nat, j ≤ 4 ∧ i = .int .i64 j ∧ Hid (Q = rst F j (4 - j) ∧ Below W0.heap.size W0 wr)) (fun i _ => 4 - (intOf i).toNat)
      case atStart => exact ⟨0, by omega, rfl, HZ.out, Below.refl _ _⟩
      case round =>
        clear HZ
        obtain ⟨j, hj, rfl, hR⟩ := hrel
        obtain ⟨hat, z0, z1, zl, hbw⟩ := HAT.out _ hR.out.2
        have HBW : Hid (Below w.heap.size w wr) := hbw
        by_cases hj4 : j < 4
        · have hac := hat j hj4
          obtain ⟨qq, hqq⟩ : ∃ q, q = F j := ⟨_, rfl⟩
          have HN : Hid (Q = (isN qq && rst F (j + 1) (4 - (j + 1)))) := by
            have e := hR.out.1
            rw [show 4 - j = (4 - (j + 1)) + 1 by omega, rst] at e
            rw [hqq]; exact e
          rw [← hqq] at hac
          clear hqq hat hbw
          obtain ⟨qc, qn, qd⟩ := qq
          have p0 : wr.cell? ⟨K, j * 3, none⟩ = some (.int .i64 qc) := hac.c0
          have p1 : wr.cell? ⟨K, j * 3 + 1, none⟩ = some (.int .i64 qn) := hac.c1
          have p2 : wr.cell? ⟨K, j * 3 + 2, none⟩ = some (.int .i64 qd) := hac.c2
          have pl := hac.lt
          clear hac
          have hj0 : (0 : Int) ≤ (j : Int) := by omega
          have hj1 : (j : Int) < 4 := by omega
          have hfg := frac_guard
          by_cases hqc : qc = 0
          case neg =>
            have HF : Hid (Q = false) := by
              unfold Hid; rw [HN.out, isN_same]
              have e : (qc == 0) = false := by simpa using hqc
              show ((qc == 0 && same2 qn qd 0 1) && _) = false
              rw [e]; rfl
            have hA5 : (qc != 0) = true := by simpa using hqc
            clear HN hqc
            go_wp2_with (fail)
            (refine wp_region_und (by kernel_rfl) (by kernel_rfl) (fun hund => ?_); (repeat (go_big_quiet_step (fail))); with_reducible refine wpQuiet_nil ?_; clear hund; intro W1 hb1; obtain ⟨hc1, hf1⟩ := undcell hb1)
            have HB1 : Hid (Below w.heap.size w W1) := HBW.out.trans (hb1.mono HBW.out.size)
            clear hb1 hc1 hf1
            go_wp2
            go_returns
            exact ⟨by rw [HF.out] <;> rfl, HB1.out⟩
          have hA5 : (qc != 0) = false := by rw [hqc]; rfl
          cases hsm : same2 qn qd 0 1 with
          | false =>
            have HF : Hid (Q = false) := by
              unfold Hid; rw [HN.out, isN_same]
              show ((qc == 0 && same2 qn qd 0 1) && _) = false
              rw [hsm, Bool.and_false]; rfl
            have hne := frac_neq_f _ _ _ _ hsm
            clear HN hqc hsm
            go_wp2_with (fail)
            (refine wp_region_und (by kernel_rfl) (by kernel_rfl) (fun hund => ?_); (repeat (go_big_quiet_step (fail))); with_reducible refine wpQuiet_nil ?_; clear hund; intro W1 hb1; obtain ⟨hc1, hf1⟩ := undcell hb1)
            have HB1 : Hid (Below w.heap.size w W1) := HBW.out.trans (hb1.mono HBW.out.size)
            clear hb1 hc1 hf1
            go_wp2
            go_returns
            exact ⟨by rw [HF.out] <;> rfl, HB1.out⟩
          | true =>
            have HF : Hid (Q = rst F (j + 1) (4 - (j + 1))) := by
              unfold Hid; rw [HN.out, isN_same]
              show ((qc == 0 && same2 qn qd 0 1) && _) = _
              rw [hsm, hqc]; rfl
            have hne := frac_neq_t _ _ _ _ hsm
            clear HN hqc hsm
            go_wp2_with (fail)
            (refine wp_region_und (by kernel_rfl) (by kernel_rfl) (fun hund => ?_); (repeat (go_big_quiet_step (fail))); with_reducible refine wpQuiet_nil ?_; clear hund; intro W1 hb1; obtain ⟨hc1, hf1⟩ := undcell hb1)
            have HB1 : Hid (Below W0.heap.size W0 W1) := hR.out.2.trans (hb1.mono hR.out.2.size)
            clear hb1 hc1 hf1
            go_wp2
            go_roundw
            case rel => exact ⟨j + 1, by omega, by go_num, HF.out, HB1.out⟩
            case measure => simp [intOf]; omega
        · have HF : Hid (Q = true) := by
            have e := hR.out.1
            rw [show 4 - j = 0 by omega, rst] at e; exact e
          go_wp2
          go_returns
          exact ⟨by rw [HF.out] <;> rfl, HBW.out⟩

end Go.Proofs.Ytdidmjgilnhncab
