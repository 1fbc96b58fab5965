/- Proved here: LeastEnd of the program: leC, leV. -/
import Derived.Test.YtcfcknfaeliodaaGt20
import Derived.Test.YtcfcknfaeliodaaCzI
import Derived.Test.YtcfcknfaeliodaaS2B
import Derived.Test.YtcfcknfaeliodaaReg
import Derived.Test.YtcfcknfaeliodaaGzM
namespace Go.Proofs.Ytcfcknfaeliodaa
open Go.RowKit
set_option linter.unusedVariables false
set_option linter.unusedSimpArgs false

theorem set_two20 {w : World} {k : Nat} {a b a' b' : Value} {T : TypeId} (h : w.heap[k]? = some (.cells #[a, b] T)) : (w.setCells k 0 [a', b']).heap[k]? = some (.cells #[a', b'] T) := by
  have s0 := heap_setCell_same _ _ 0 _ _ a' h
  have s1 := heap_setCell_same _ _ 1 _ _ b' s0
  simpa [World.setCells] using s1
theorem there_n20 {w : World} {k m : Nat} {cs : Array Value} {T : TypeId} (h : w.heap[k]? = some (.cells cs T)) (hm : m = cs.size) : w.there k 0 m := by
  intro j hj
  have hj2 : j < cs.size := by rw [← hm]; exact hj
  simp [World.cell?, World.frozen?, h, hj2]

set_option maxRecDepth 10000 in
set_option maxHeartbeats 3200000 in
theorem impl_wf (M W : Int) {w : World} {a b : Option Addr} {c d : Nat} {s t : List Int} (hn : s.length ≤ 1048576 ∧ t.length ≤ 1048576) (h : RdL w (.slice a s.length c) (.slice b t.length d) s t) :
    Calls Try.prog 51 #[.agg #[.slice a s.length c, .int .i64 M, .slice b t.length d], .int .i64 W] w fun e w' => e = .returned (.int .i64 (leC M s t W)) ∧ Below w.heap.size w w' := by
  obtain ⟨n, hnn⟩ : ∃ n, n = s.length := ⟨_, rfl⟩
  obtain ⟨m, hmm⟩ : ∃ n, n = t.length := ⟨_, rfl⟩
  obtain ⟨D, hD⟩ : ∃ D, D = leC M s t W := ⟨_, rfl⟩
  obtain ⟨x, hx⟩ : ∃ D, D = clF M s t := ⟨_, rfl⟩
  have HF : Hid (∀ W, Below w.heap.size w W → Calls Try.prog 64 #[.agg #[.slice a n c, .int .i64 M, .slice b m d]] W fun e w' => e = .returned (.int .i64 x) ∧ Below W.heap.size W w') := fun W hb => by
    rw [hx, hnn, hmm]; exact impl_cl M hn (h.below hb)
  obtain ⟨q, hq⟩ : ∃ q, q = decide (0 ≤ W ∧ W ≤ 12) := ⟨_, rfl⟩
  have HI : Hid (∀ U, Calls Try.prog 34 #[.int .i64 W, .int .i64 0, .int .i64 12] U fun e w' => e = .returned (.bool q) ∧ w' = U) := impl_insC W 0 12 q hq
  have HD : Hid (D = if x ≠ 0 then x else if q = true then 0 else 3) := by
    unfold Hid; rw [hD, hx, hq]; unfold leC; simp only [decide_eq_true_eq]
  rw [← hD, ← hnn, ← hmm]
  clear h hn hnn hmm hD hx hq
  go_enter Try.func51, Try.ntmps51
  go_wp2_with (fail)
  refine (HF.out _ (by (repeat' (first | (with_reducible exact Below.refl _ _) | (with_reducible assumption) | (with_reducible refine Below.setCell ?_ ?_ _) | (with_reducible refine Below.alloc ?_ ?_ _) | (with_reducible refine below_drewN ?_ _) | (with_reducible refine Below.drew ?_) | (with_reducible exact Nat.le_refl _) | omega | (simp; done) | (simp; omega))))).mono ?_
  rintro e w1 ⟨rfl, hb1⟩
  have HB : Hid (Below w.heap.size w w1) := (show Below w.heap.size w _ from by (repeat' (first | (with_reducible exact Below.refl _ _) | (with_reducible assumption) | (with_reducible refine Below.setCell ?_ ?_ _) | (with_reducible refine Below.alloc ?_ ?_ _) | (with_reducible refine below_drewN ?_ _) | (with_reducible refine Below.drew ?_) | (with_reducible exact Nat.le_refl _) | omega | (simp; done) | (simp; omega)))).trans (hb1.mono (by simp))
  clear hb1 HF
  by_cases hx0 : x = 0
  case neg =>
    have HE : Hid (D = x) := by unfold Hid; rw [HD.out, if_pos hx0]
    have hA1 : (x != 0) = true := by simpa using hx0
    go_wp2
    go_returns
    exact ⟨by rw [HE.out]; rfl, HB.out⟩
  subst hx0
  go_wp2_with (fail)
  refine (HI.out _).mono ?_
  rintro e w5 ⟨rfl, hw5⟩
  subst w5
  cases q with
  | false =>
    have HE : Hid (D = 3) := by unfold Hid; rw [HD.out]; rfl
    go_wp2
    go_returns
    exact ⟨by rw [HE.out]; rfl, HB.out⟩
  | true =>
    have HE : Hid (D = 0) := by unfold Hid; rw [HD.out]; rfl
    go_wp2
    go_returns
    exact ⟨by rw [HE.out]; rfl, HB.out⟩

set_option maxRecDepth 10000 in
set_option maxHeartbeats 6400000 in
theorem impl_le (M W : Int) {w : World} {a b : Option Addr} {c d : Nat} {s t : List Int} (hn : s.length ≤ 1048576 ∧ t.length ≤ 1048576) (h : RdL w (.slice a s.length c) (.slice b t.length d) s t) :
    Calls Try.prog 26 #[.agg #[.slice a s.length c, .int .i64 M, .slice b t.length d], .int .i64 W] w fun e w' => e = .returned (.agg #[.int .i64 (leC M s t W), .int .i64 (leV M s t W)]) ∧ Below w.heap.size w w' := by
  obtain ⟨i0, hi, hz0, hz1, hz2⟩ := info_parts info_i64
  obtain ⟨n, hnn⟩ : ∃ n, n = s.length := ⟨_, rfl⟩
  obtain ⟨m, hmm⟩ : ∃ n, n = t.length := ⟨_, rfl⟩
  obtain ⟨D, hD⟩ : ∃ D, D = leC M s t W := ⟨_, rfl⟩
  obtain ⟨V, hV⟩ : ∃ D, D = leV M s t W := ⟨_, rfl⟩
  obtain ⟨x, hx⟩ : ∃ D, D = clF M s t := ⟨_, rfl⟩
  have HF : Hid (∀ U, Below w.heap.size w U → Calls Try.prog 51 #[.agg #[.slice a n c, .int .i64 M, .slice b m d], .int .i64 W] U fun e w' => e = .returned (.int .i64 D) ∧ Below U.heap.size U w') := fun U hb => by
    rw [hD, hnn, hmm]; exact impl_wf M W hn (h.below hb)
  have HK : Hid ((x ≠ 0 → D = x ∧ V = 0) ∧ (x = 0 → ¬ (0 ≤ W ∧ W ≤ 12) → D = 3 ∧ V = 0) ∧ (x = 0 → (0 ≤ W ∧ W ≤ 12) → D = 0 ∧ (W = 0 → V = 0) ∧ (W ≠ 0 → ClOk M s t ∧ V = max (moK s t M W m) (alK s t M m)))) := by
    unfold Hid
    rw [hD, hV]
    unfold leV leC
    rw [← hx, ← hmm]
    refine ⟨fun h => ?_, fun h h2 => ?_, fun h h2 => ?_⟩
    · simp [h]
    · simp [h, h2]
    · refine ⟨by simp [h, h2], fun h3 => by simp [h3], fun h3 => ⟨clF_ok (by rw [← hx]; exact h), by simp [h, h2, h3]⟩⟩
  rw [← hD, ← hV, ← hnn, ← hmm]
  have H : Hid (RdL w (.slice a n c) (.slice b m d) s t ∧ n = s.length ∧ m = t.length) := ⟨by rw [hnn, hmm]; exact h, hnn, hmm⟩
  have HS : Hid (S2 w (.cells #[.slice a n c, .int .i64 M, .slice b m d] 55) (.cells #[.int .i64 0, .int .i64 0] 53) ((w.alloc (.cells #[.slice a n c, .int .i64 M, .slice b m d] 55)).alloc (.cells #[.int .i64 0, .int .i64 0] 53))) := S2.new _ _ _
  have HKD : Hid ((D ≠ 0 → V = 0) ∧ (D = 0 → 0 ≤ W ∧ W ≤ 12 ∧ (W = 0 → V = 0) ∧ (W ≠ 0 → ClOk M s t ∧ V = max (moK s t M W m) (alK s t M m)))) := by
    unfold Hid
    by_cases h1 : x = 0
    · by_cases h2 : 0 ≤ W ∧ W ≤ 12
      · have := HK.out.2.2 h1 h2
        exact ⟨fun e => absurd this.1 e, fun _ => ⟨h2.1, h2.2, this.2⟩⟩
      · have := HK.out.2.1 h1 h2
        exact ⟨fun _ => this.2, fun e => by rw [this.1] at e; cases e⟩
    · have := HK.out.1 h1
      exact ⟨fun _ => this.2, fun e => by rw [this.1] at e; exact absurd e h1⟩
  clear h hnn hmm hD hV hx hn HK
  go_enter Try.func26, Try.ntmps26
  go_wp2_with (fail)
  obtain ⟨U, hU⟩ : ∃ U, U = (w.alloc (.cells #[.slice a n c, .int .i64 M, .slice b m d] 55)).alloc (.cells #[.int .i64 0, .int .i64 0] 53) := ⟨_, rfl⟩
  rw [← hU] at HS ⊢
  clear hU
  refine (HF.out _ HS.out.bl).mono ?_
  rintro e w1 ⟨rfl, hb1⟩
  have HT : Hid (S2 w (.cells #[.slice a n c, .int .i64 M, .slice b m d] 55) (.cells #[.int .i64 0, .int .i64 0] 53) w1) := HS.out.next hb1
  clear hb1 HF HS
  obtain ⟨p0, p1, p2, pf, pl⟩ := tw_three HT.out.b0
  obtain ⟨q0, q1, qf, ql⟩ := tw_two HT.out.b1
  have qf0 := qf 0
  have qf1 := qf 1
  have HB : Hid (Below w.heap.size w w1) := HT.out.bl
  clear pf qf
  by_cases hx0 : D = 0
  case neg =>
    have HV : Hid (V = 0) := HKD.out.1 hx0
    have hA1 : (D != 0) = true := by simpa using hx0
    go_wp2
    try simp only [Exit.inBlock, Exit.then]
    refine bodyPost_ret (by simp [results, Try.results26, go_sem, q0, q1]; try rfl) rfl ⟨by rw [HV.out], ?_⟩
    have hB := HB.out
    (repeat' (first | (with_reducible exact Below.refl _ _) | (with_reducible assumption) | (with_reducible refine Below.setCell ?_ ?_ _) | (with_reducible refine Below.alloc ?_ ?_ _) | (with_reducible refine below_drewN ?_ _) | (with_reducible refine Below.drew ?_) | (with_reducible exact Nat.le_refl _) | omega | (simp; done) | (simp; omega)))
  subst hx0
  have hk := HKD.out.2 rfl
  by_cases hw0 : W = 0
  · have HV : Hid (V = 0) := hk.2.2.1 hw0
    subst hw0
    clear hk
    go_wp2
    try simp only [Exit.inBlock, Exit.then]
    refine bodyPost_ret (by simp [results, Try.results26, go_sem, q0, q1]; try rfl) rfl ⟨by rw [HV.out], ?_⟩
    have hB := HB.out
    (repeat' (first | (with_reducible exact Below.refl _ _) | (with_reducible assumption) | (with_reducible refine Below.setCell ?_ ?_ _) | (with_reducible refine Below.alloc ?_ ?_ _) | (with_reducible refine below_drewN ?_ _) | (with_reducible refine Below.drew ?_) | (with_reducible exact Nat.le_refl _) | omega | (simp; done) | (simp; omega)))
  have HO : Hid (ClOk M s t ∧ V = max (moK s t M W m) (alK s t M m)) := hk.2.2.2 hw0
  have hW0 := hk.1
  have hW1 := hk.2.1
  have hw1 : (W == 0) = false := beq_eq_false_iff_ne.2 hw0
  have hWp : 1 ≤ W := by omega
  have hM0 : 1 ≤ M := HO.out.1.mv.1
  have hM1 : M ≤ 100 := HO.out.1.mv.2
  have hm8 : m ≤ 8 := by rw [H.out.2.2]; exact HO.out.1.lr.2
  have hn6 : n ≤ 6 := by rw [H.out.2.1]; exact HO.out.1.ls.2
  have hn0 : 0 < n := by rw [H.out.2.1]; exact HO.out.1.ls.1
  clear hk
  obtain ⟨A0, hA0⟩ : ∃ A, A = ((m : Int) + 1) * M := ⟨_, rfl⟩
  have HA0 : Hid (A0 = ((m : Int) + 1) * M ∧ A0 = alK s t M 0) := ⟨hA0, by rw [hA0, alK, H.out.2.2]⟩
  have hAb : 0 ≤ A0 ∧ A0 ≤ 900 := by rw [HA0.out.2]; have := al_bd HO.out.1 0 (Nat.zero_le _); simpa using this
  have e1 : IntKind.i64.wrap (((m : Int) + 1) * M) = A0 := by rw [← hA0, IntKind.wrap_i64]; omega
  have hl1 : w.heap.size + 2 ≤ w1.heap.size := ltOf HT.out.b1
  clear hA0 hw0
  go_wp2_with (at_make; refine wpList_make_full _ rfl _ _ 39 rfl w1.heap.size 2 i0 (.int .i64 0) 1 Try.underlying39 hi hz0 hz1 _ _ _ _ n rfl rfl rfl rfl (by rw [hz2]; omega) (by unfold maxLen; omega) (Nat.le_refl _) ?_; intro w2 hown2 hgrow2; have hb2 : Below w1.heap.size w1 w2 := (Below.refl _ _).grown hgrow2 (Nat.le_refl _) (fun k h => by cases h); have HT2 : Hid (S2 w (.cells #[.slice a n c, .int .i64 M, .slice b m d] 55) (.cells #[.int .i64 0, .int .i64 0] 53) w2) := HT.out.next hb2; clear p0 p1 p2 pl q0 q1 ql qf0 qf1; obtain ⟨p0, p1, p2, pf, pl⟩ := tw_three HT2.out.b0)
  clear hgrow2 hb2 pf HB
  obtain ⟨g, hg⟩ : ∃ g, g = w1.heap.size := ⟨_, rfl⟩
  have HG : Hid (S2 w (.cells #[.slice a n c, .int .i64 M, .slice b m d] 55) (.cells #[.int .i64 0, .int .i64 0] 53) w2 ∧ IS w2 (w.heap.size + 2) (.slice (some ⟨g, 0, none⟩) n n) (bsL s t 0)) := by
    refine ⟨HT2.out, ?_⟩
    rw [hg]
    have h9 : IS w2 w1.heap.size (.slice (some ⟨w1.heap.size, 0, none⟩) n n) (bsL s t 0) := by
      rw [bsL_zero, ← H.out.2.1]
      unfold IS
      rw [show (Value.int IntKind.i64 0).cells = #[Value.int IntKind.i64 0] from rfl, toList_madeCells_one, Nat.mul_one] at hown2
      rw [List.length_replicate, List.map_replicate]
      exact hown2
    exact h9.low hl1
  rw [← hg]
  clear hg hown2 HT HT2 hl1
  go_loopw [8, 37] (fun q i wr => ∃ (k : Nat) (A : Int), k ≤ m ∧ q = .int .i64 A ∧ i = .int .i64 k ∧ (0 ≤ A ∧ A ≤ 9000) ∧ Hid (S2 w (.cells #[.slice a n c, .int .i64 M, .slice b m d] 55) (.cells #[.int .i64 0, .int .i64 0] 53) wr ∧ IS wr (w.heap.size + 2) (.slice (some ⟨g, 0, none⟩) n n) (bsL s t k) ∧ A = alK s t M k)) (fun _ i _ => m - (intOf i).toNat)
  case atStart => exact ⟨0, A0, Nat.zero_le _, by first | rfl | (rw [e1]), rfl, by omega, HG.out.1, HG.out.2, HA0.out.2⟩
  case round =>
    clear HG HA0 e1 hAb p0 p1 p2 pl
    obtain ⟨k, A, hk, rfl, rfl, hA, hR⟩ := hrel
    obtain ⟨p0, p1, p2, pf, pl⟩ := tw_three hR.out.1.b0
    clear pf
    have hA0 := hA.1
    have hA1 := hA.2
    by_cases hlt : k < m
    · have hkt : k < t.length := by rw [← H.out.2.2]; exact hlt
      obtain ⟨p, hp1, hp2⟩ := rt_nat (HO.out.1.rs k hkt)
      rw [← H.out.2.1] at hp2
      have hpn : p < n := by omega
      obtain ⟨g2, o2, rfl, hg2, hc2⟩ := rd_at (H.out.1.2.below hR.out.1.bl) hlt
      obtain ⟨g1, o1, rfl, hg1, hc1⟩ := rd_at (H.out.1.1.below hR.out.1.bl) hpn
      rw [hp1] at hc2
      obtain ⟨st, hst⟩ : ∃ x, x = s.getD p 0 := ⟨_, rfl⟩
      obtain ⟨bs, hbs⟩ : ∃ x, x = bsK s t p k := ⟨_, rfl⟩
      rw [← hst] at hc1
      obtain ⟨d0, df0⟩ := hR.out.2.1.atG hpn
      rw [bsL_at (by rw [← H.out.2.1]; exact hpn), ← hbs] at d0
      have gl : g < wr.heap.size := (IS.lt hR.out.2.1 g rfl).2
      have hgB : w.heap.size + 2 ≤ g := (IS.lt hR.out.2.1 g rfl).1
      have hsb := HO.out.1.ts p (by rw [← H.out.2.1]; exact hpn)
      rw [← hst] at hsb
      have hbb := bs_bd HO.out.1 (show p < s.length by rw [← H.out.2.1]; exact hpn) (Nat.le_of_lt hkt)
      rw [← hbs] at hbb
      have e2 : IntKind.i64.wrap (bs + st) = bs + st := by rw [IntKind.wrap_i64]; omega
      have e3 : IntKind.i64.wrap (A + st) = A + st := by rw [IntKind.wrap_i64]; omega
      have HN : Hid (S2 w (.cells #[.slice (some ⟨g1, o1, none⟩) n c, .int .i64 M, .slice (some ⟨g2, o2, none⟩) m d] 55) (.cells #[.int .i64 0, .int .i64 0] 53) (wr.setCell ⟨g, p, none⟩ (.int .i64 (bs + st))) ∧ IS (wr.setCell ⟨g, p, none⟩ (.int .i64 (bs + st))) (w.heap.size + 2) (.slice (some ⟨g, 0, none⟩) n n) (bsL s t (k + 1)) ∧ A + st = alK s t M (k + 1) ∧ (0 ≤ A + st ∧ A + st ≤ 9000)) := by
        refine ⟨⟨?_, ?_, ?_⟩, ?_, ?_, ?_⟩
        · have hB := hR.out.1.bl
          (repeat' (first | (with_reducible exact Below.refl _ _) | (with_reducible assumption) | (with_reducible refine Below.setCell ?_ ?_ _) | (with_reducible refine Below.alloc ?_ ?_ _) | (with_reducible refine below_drewN ?_ _) | (with_reducible refine Below.drew ?_) | (with_reducible exact Nat.le_refl _) | omega | (simp; done) | (simp; omega)))
        · rw [heap_setCell_other _ _ _ _ (by simp; omega)]; exact hR.out.1.b0
        · rw [heap_setCell_other _ _ _ _ (by simp; omega)]; exact hR.out.1.b1
        · rw [bsL_step (by rw [← H.out.2.1]; exact hpn) hp1, ← hbs, ← hst]; exact hR.out.2.1.setG p _
        · rw [alK, ← hR.out.2.2, tm_at hp1, ← hst]
        · have h3 := al_bd HO.out.1 (k + 1) hkt
          rw [alK, ← hR.out.2.2, tm_at hp1, ← hst] at h3
          omega
      have b0 : (0 : Int) ≤ (k : Int) := by omega
      have b1 : (k : Int) < (m : Int) := by omega
      have b2 : (0 : Int) ≤ (p : Int) := by omega
      have b3 : (p : Int) < (n : Int) := by omega
      clear hst hbs hR hA hp1 hsb hbb hkt
      go_wp2
      go_roundw
      case rel => exact ⟨k + 1, A + st, by omega, by first | rfl | (rw [e3]), by go_num, HN.out.2.2.2, HN.out.1, HN.out.2.1, HN.out.2.2.1⟩
      case measure => simp [intOf]; omega
    obtain rfl : k = m := by omega
    obtain ⟨G, hG⟩ : ∃ G, G = gt2 (bsL s t k) (n - 1) := ⟨_, rfl⟩
    have HMX : Hid (∀ U, RdI U (.slice (some ⟨g, 0, none⟩) n n) (bsL s t k) → Calls Try.prog 52 #[.slice (some ⟨g, 0, none⟩) n n] U fun e w' => e = .returned (.int .i64 G) ∧ w' = U) := fun U hU => by
      have := impl_max20 (by rw [bsL_len, ← H.out.2.1]; exact hn0) (by rw [bsL_len, ← H.out.2.1]; omega) hU
      rw [bsL_len, ← H.out.2.1, ← hG] at this
      exact this
    have hGb : 0 ≤ G ∧ G ≤ 8000 := by
      have := gt_bd HO.out.1
      rw [← H.out.2.2, ← H.out.2.1, ← hG] at this
      exact this
    have b8 := mul_bd20 hW0 hW1 hGb.1 hGb.2
    have b9 := mul_bd20 hW0 hW1 (show (0 : Int) ≤ (k : Int) + 1 by omega) (show (k : Int) + 1 ≤ 9 by omega)
    have b10 := mul_bd20 b9.1 b9.2 (show 0 ≤ M by omega) hM1
    have e4 : IntKind.i64.wrap (W * G) = W * G := by rw [IntKind.wrap_i64]; omega
    have e5 : IntKind.i64.wrap (2 * M) = 2 * M := by rw [IntKind.wrap_i64]; omega
    have e6 : IntKind.i64.wrap (W * G + 2 * M) = W * G + 2 * M := by rw [IntKind.wrap_i64]; omega
    have e7 : IntKind.i64.wrap (W * ((k : Int) + 1)) = W * ((k : Int) + 1) := by rw [IntKind.wrap_i64]; omega
    have e8 : IntKind.i64.wrap (W * ((k : Int) + 1) * M) = W * ((k : Int) + 1) * M := by rw [IntKind.wrap_i64]; omega
    obtain ⟨X1, hX1⟩ : ∃ X, X = W * G + 2 * M := ⟨_, rfl⟩
    obtain ⟨X2, hX2⟩ : ∃ X, X = W * ((k : Int) + 1) * M := ⟨_, rfl⟩
    have HV : Hid (V = max (max X1 X2) A) := by
      unfold Hid
      have h1 := mo_all (W := W) HO.out.1 hWp
      rw [← H.out.2.2, ← H.out.2.1, ← hG, ← hX1, ← hX2] at h1
      rw [HO.out.2, h1, hR.out.2.2]
      omega
    have HR : Hid (S2 w (.cells #[.slice a n c, .int .i64 M, .slice b k d] 55) (.cells #[.int .i64 0, .int .i64 0] 53) wr ∧ RdI wr (.slice (some ⟨g, 0, none⟩) n n) (bsL s t k)) := ⟨hR.out.1, hR.out.2.1.rg⟩
    have hkz := hR.out.1.b1
    clear hR hG
    go_wp2_with (fail)
    refine wp_region_holdsA (S := fun U => U.cell? ⟨w.heap.size, 1, none⟩ = some (.int .i64 M) ∧ w.heap.size < U.heap.size ∧ True) (by kernel_rfl) ⟨p1, pl, trivial⟩ (fun hS => ?_)
    refine fl_takeA (i := 0) (d := 59) (v := .int .i64 W) rfl rfl rfl (by kernel_rfl) (by kernel_rfl) (by kernel_rfl) hS ?_ ?_
    · intro w' hk; obtain ⟨hk0, hk1, hk2⟩ := hk; go_simp
    simp only [Act.put, List.setIfInBounds_toArray, List.set_cons_zero, List.set_cons_succ]
    refine fl_takeA (i := 1) (d := 60) (v := .slice (some ⟨g, 0, none⟩) n n) rfl rfl rfl (by kernel_rfl) (by kernel_rfl) (by kernel_rfl) hS ?_ ?_
    · intro w' hk; obtain ⟨hk0, hk1, hk2⟩ := hk; go_simp
    simp only [Act.put, List.setIfInBounds_toArray, List.set_cons_zero, List.set_cons_succ]
    refine fl_takeA (i := 4) (d := 63) (v := .pointer (some ⟨w.heap.size, 1, none⟩)) rfl rfl rfl (by kernel_rfl) (by kernel_rfl) (by kernel_rfl) hS ?_ ?_
    · intro w' hk; obtain ⟨hk0, hk1, hk2⟩ := hk; go_simp
    simp only [Act.put, List.setIfInBounds_toArray, List.set_cons_zero, List.set_cons_succ]
    refine fl_takeA (i := 5) (d := 64) (v := .int .i64 M) rfl rfl rfl (by kernel_rfl) (by kernel_rfl) (by kernel_rfl) hS ?_ ?_
    · intro w' hk; obtain ⟨hk0, hk1, hk2⟩ := hk; go_simp
    simp only [Act.put, List.setIfInBounds_toArray, List.set_cons_zero, List.set_cons_succ]
    refine fl_takeA (i := 6) (d := 65) (v := .int .i64 (2 * M)) rfl rfl rfl (by kernel_rfl) (by kernel_rfl) (by kernel_rfl) hS ?_ ?_
    · intro w' hk; obtain ⟨hk0, hk1, hk2⟩ := hk; go_simp
    simp only [Act.put, List.setIfInBounds_toArray, List.set_cons_zero, List.set_cons_succ]
    refine fl_takeA (i := 8) (d := 67) (v := .int .i64 W) rfl rfl rfl (by kernel_rfl) (by kernel_rfl) (by kernel_rfl) hS ?_ ?_
    · intro w' hk; obtain ⟨hk0, hk1, hk2⟩ := hk; go_simp
    simp only [Act.put, List.setIfInBounds_toArray, List.set_cons_zero, List.set_cons_succ]
    refine fl_takeA (i := 9) (d := 68) (v := .int .i64 ((k : Int) + 1)) rfl rfl rfl (by kernel_rfl) (by kernel_rfl) (by kernel_rfl) hS ?_ ?_
    · intro w' hk; obtain ⟨hk0, hk1, hk2⟩ := hk; go_simp
    simp only [Act.put, List.setIfInBounds_toArray, List.set_cons_zero, List.set_cons_succ]
    refine fl_takeA (i := 10) (d := 69) (v := .int .i64 (W * ((k : Int) + 1))) rfl rfl rfl (by kernel_rfl) (by kernel_rfl) (by kernel_rfl) hS ?_ ?_
    · intro w' hk; obtain ⟨hk0, hk1, hk2⟩ := hk; go_simp
    simp only [Act.put, List.setIfInBounds_toArray, List.set_cons_zero, List.set_cons_succ]
    refine fl_takeA (i := 11) (d := 70) (v := .pointer (some ⟨w.heap.size, 1, none⟩)) rfl rfl rfl (by kernel_rfl) (by kernel_rfl) (by kernel_rfl) hS ?_ ?_
    · intro w' hk; obtain ⟨hk0, hk1, hk2⟩ := hk; go_simp
    simp only [Act.put, List.setIfInBounds_toArray, List.set_cons_zero, List.set_cons_succ]
    refine fl_takeA (i := 12) (d := 71) (v := .int .i64 M) rfl rfl rfl (by kernel_rfl) (by kernel_rfl) (by kernel_rfl) hS ?_ ?_
    · intro w' hk; obtain ⟨hk0, hk1, hk2⟩ := hk; go_simp
    simp only [Act.put, List.setIfInBounds_toArray, List.set_cons_zero, List.set_cons_succ]
    refine fl_takeA (i := 13) (d := 72) (v := .int .i64 (W * ((k : Int) + 1) * M)) rfl rfl rfl (by kernel_rfl) (by kernel_rfl) (by kernel_rfl) hS ?_ ?_
    · intro w' hk; obtain ⟨hk0, hk1, hk2⟩ := hk; go_simp
    simp only [Act.put, List.setIfInBounds_toArray, List.set_cons_zero, List.set_cons_succ]
    refine fl_takeA (i := 14) (d := 73) (v := .int .i64 A) rfl rfl rfl (by kernel_rfl) (by kernel_rfl) (by kernel_rfl) hS ?_ ?_
    · intro w' hk; obtain ⟨hk0, hk1, hk2⟩ := hk; go_simp
    simp only [Act.put, List.setIfInBounds_toArray, List.set_cons_zero, List.set_cons_succ]
    refine wpAnyH_all (rs := [2]) (by kernel_rfl) (by simp) ?_
    intro i hi
    obtain rfl : i = 2 := by simpa using hi
    clear hi
    refine op_call (d := 61) rfl rfl rfl (by go_simp) ((HMX.out wr.drew (HR.out.2.below ((Below.refl _ _).drew))).mono ?_)
    rintro e w9 ⟨rfl, hw9⟩
    subst hw9
    refine ⟨_, rfl, hS, ?_⟩
    simp only [Act.put, List.setIfInBounds_toArray, List.set_cons_zero, List.set_cons_succ]
    refine fl_takeA (i := 3) (d := 62) (v := .int .i64 (W * G)) rfl rfl rfl (by kernel_rfl) (by kernel_rfl) (by kernel_rfl) hS ?_ ?_
    · intro w' hk; obtain ⟨hk0, hk1, hk2⟩ := hk; go_simp
    simp only [Act.put, List.setIfInBounds_toArray, List.set_cons_zero, List.set_cons_succ]
    refine fl_takeA (i := 7) (d := 66) (v := .int .i64 (W * G + 2 * M)) rfl rfl rfl (by kernel_rfl) (by kernel_rfl) (by kernel_rfl) hS ?_ ?_
    · intro w' hk; obtain ⟨hk0, hk1, hk2⟩ := hk; go_simp
    simp only [Act.put, List.setIfInBounds_toArray, List.set_cons_zero, List.set_cons_succ]
    rw [← hX1, ← hX2]
    obtain ⟨Y, hY⟩ : ∃ Y, Y = max (max X1 X2) A := ⟨_, rfl⟩
    refine fl_takeA (i := 15) (d := 74) (v := .int .i64 Y) rfl rfl rfl (by kernel_rfl) (by kernel_rfl) (by kernel_rfl) hS ?_ ?_
    · intro w' hk
      go_simp
      try rw [hY]
      try rw [hX1, hX2]
      generalize W * G + 2 * M = Z1
      generalize W * ((k : Int) + 1) * M = Z2
      (repeat' split) <;> omega
    simp only [Act.put, List.setIfInBounds_toArray, List.set_cons_zero, List.set_cons_succ]
    refine fl_takeA (i := 16) (d := 75) (v := .agg #[.int .i64 0, .int .i64 Y]) rfl rfl rfl (by kernel_rfl) (by kernel_rfl) (by kernel_rfl) hS ?_ ?_
    · intro w' hk; obtain ⟨hk0, hk1, hk2⟩ := hk; go_simp
    simp only [Act.put, List.setIfInBounds_toArray, List.set_cons_zero, List.set_cons_succ]
    refine wpAnyH_all (rs := [17]) (by kernel_rfl) (by simp) ?_
    intro i hi
    obtain rfl : i = 17 := by simpa using hi
    clear hi
    refine op_store rfl rfl rfl _ _ _ rfl (w.heap.size + 1) #[.int .i64 0, .int .i64 Y] rfl rfl (there_n20 (w := wr.drew) hkz rfl) (by kernel_rfl) (by simp [Value.oneCell']) ?_
    obtain ⟨q0, q1, qf, ql⟩ := tw_two (set_two20 (a' := .int .i64 0) (b' := .int .i64 Y) (w := wr.drew) hkz)
    have HB : Hid (Below w.heap.size w (wr.drew.setCells (w.heap.size + 1) 0 [.int .i64 0, .int .i64 Y])) := below_setCells _ (by omega) _ _ _ HR.out.1.bl.drew
    have hS2 : (wr.drew.setCells (w.heap.size + 1) 0 [.int .i64 0, .int .i64 Y]).cell? ⟨w.heap.size, 1, none⟩ = some (.int .i64 M) ∧ w.heap.size < (wr.drew.setCells (w.heap.size + 1) 0 [.int .i64 0, .int .i64 Y]).heap.size ∧ True := by
      refine ⟨?_, by simpa [World.setCells] using pl, trivial⟩
      have hoff : (wr.drew.setCells (w.heap.size + 1) 0 [.int .i64 0, .int .i64 Y]).heap[w.heap.size]? = wr.heap[w.heap.size]? := by
        simp only [World.setCells]
        rw [heap_setCell_other _ _ _ _ (by simp), heap_setCell_other _ _ _ _ (by simp)]
        rfl
      have h9 := p1
      simp only [World.cell?] at h9 ⊢
      rw [hoff]
      exact h9
    refine ⟨hS2, wpAnyH_done (by kernel_rfl) (NoPanic.normal ?_) _⟩
    have HE : Hid (V = Y) := by unfold Hid; rw [HV.out, hY]
    generalize wr.drew.setCells (w.heap.size + 1) 0 [.int .i64 0, .int .i64 Y] = V' at HB q0 q1 qf ql ⊢
    clear hS hS2 HMX HR hkz p0 p1 p2 pl qf hY hX1 hX2
    go_wp2
    try simp only [Exit.inBlock, Exit.then]
    refine bodyPost_ret (by simp [results, Try.results26, go_sem, q0, q1]; try rfl) rfl ⟨by rw [HE.out], ?_⟩
    have hB := HB.out
    (repeat' (first | (with_reducible exact Below.refl _ _) | (with_reducible assumption) | (with_reducible refine Below.setCell ?_ ?_ _) | (with_reducible refine Below.alloc ?_ ?_ _) | (with_reducible refine below_drewN ?_ _) | (with_reducible refine Below.drew ?_) | (with_reducible exact Nat.le_refl _) | omega | (simp; done) | (simp; omega)))

end Go.Proofs.Ytcfcknfaeliodaa
