/- Proved here: CheckCorrection of the model. -/
import Derived.Test.YtfjcebgknpccbabCkC
namespace Go.Proofs.Ytfjcebgknpccbab
open Go.RowKit
set_option linter.unusedVariables false
set_option linter.unusedSimpArgs false

theorem fldSI1 (A V : Int) (w : World) : (Instr.field 50 (.agg #[.int .i64 A, .int .i64 V]) 1).run Try.prog w = .ok (.int .i64 V) w := by kernel_rfl

set_option maxRecDepth 10000 in
set_option maxHeartbeats 12800000 in
theorem spec_ck (K len C : Int) {w : World} {vt va vb u : Value} {t s : List Ln} {ws es : List Int} (hnt : t.length ≤ 1048576) (hn : s.length ≤ 1048576) (hne : es.length ≤ 1048576) (ht : RG 2 lnC w vt t) (hu : RdI w u ws) (h : RdCR w va vb s es) :
    Calls Try.prog 19 #[vt, .int .i64 len, .agg #[u, .int .i64 K], .agg #[.int .i64 C, va, vb]] w fun e w' => e = .returned (.bool (ckB t s len ws K C es)) ∧ Below w.heap.size w w' := by
  obtain ⟨a, c, rfl⟩ := h.ln.form
  obtain ⟨eb, ed, rfl⟩ := h.er.form
  obtain ⟨b, d, rfl⟩ := hu.form
  obtain ⟨ta, tc, rfl⟩ := ht.form
  obtain ⟨n, hnn⟩ : ∃ n, n = s.length := ⟨_, rfl⟩
  obtain ⟨m, hmm⟩ : ∃ m, m = ws.length := ⟨_, rfl⟩
  obtain ⟨tn, htn⟩ : ∃ n, n = t.length := ⟨_, rfl⟩
  obtain ⟨en, hen⟩ : ∃ n, n = es.length := ⟨_, rfl⟩
  rw [← hnn, ← hen] at h ⊢
  rw [← hmm] at hu ⊢
  rw [← htn] at ht ⊢
  obtain ⟨A, hA⟩ : ∃ C, C = peC t s len ws K := ⟨_, rfl⟩
  obtain ⟨V, hV⟩ : ∃ V, V = peV t s len ws K := ⟨_, rfl⟩
  obtain ⟨A2, hA2⟩ : ∃ C, C = peC t t len ws K := ⟨_, rfl⟩
  obtain ⟨V2, hV2⟩ : ∃ V, V = peV t t len ws K := ⟨_, rfl⟩
  obtain ⟨B, hB⟩ : ∃ B, B = ckB t s len ws K C es := ⟨_, rfl⟩
  rw [← hB]
  have H : Hid (RdI w (.slice eb en ed) es ∧ en = es.length ∧ B = (decide (C = 0) && decide (A = 0) && decide (0 < en) && decide (es.getD (en - 1) 0 = V) && faK es en && decide (es.getD 0 0 = V2))) := ⟨h.er, hen, by rw [hB, ckB, ← hA, ← hV, ← hV2, ← hen]⟩
  have HP1 : Hid (∀ W, Below w.heap.size w W → Calls Try.prog 23 #[.slice ta tn tc, .slice a n c, .int .i64 len, .agg #[.slice b m d, .int .i64 K]] W fun e w' => e = .returned (.agg #[.int .i64 A, .int .i64 V]) ∧ Below W.heap.size W w') := fun W hW => by rw [hA, hV]; exact spec_pe K len hnt hn (ht.below hW) (h.ln.below hW) (hu.below hW)
  have HP2 : Hid (∀ W, Below w.heap.size w W → Calls Try.prog 23 #[.slice ta tn tc, .slice ta tn tc, .int .i64 len, .agg #[.slice b m d, .int .i64 K]] W fun e w' => e = .returned (.agg #[.int .i64 A2, .int .i64 V2]) ∧ Below W.heap.size W w') := fun W hW => by rw [hA2, hV2]; exact spec_pe K len hnt hnt (ht.below hW) (ht.below hW) (hu.below hW)
  have hen20 : en ≤ 1048576 := by omega
  clear h hu hn hA hV hA2 hV2 hB hnn hmm ht hnt htn hne hen
  go_enter Try.func19, Try.ntmps19
  go_wp2_with (fail)
  refine (HP1.out _ (by (repeat' (first | (with_reducible exact Below.refl _ _) | (with_reducible assumption) | (with_reducible refine Below.setCell ?_ ?_ _) | (with_reducible refine Below.alloc ?_ ?_ _) | (with_reducible refine below_drewN ?_ _) | (with_reducible refine Below.drew ?_) | (with_reducible exact Nat.le_refl _) | omega | (simp; done) | (simp; omega))))).mono ?_
  rintro e w1 ⟨rfl, hb1⟩
  have k1 := (hb1.block w.heap.size (by simp; omega)).trans ((Below.heap_alloc _ _ _ (by simp)).trans (heap_alloc_new w _))
  have k2 := (hb1.block (w.heap.size + 1) (by simp)).trans (kn_at1 w _ _)
  have HB : Hid (Below w.heap.size w w1 ∧ w1.heap[w.heap.size]? = some (.cells #[.slice b m d, .int .i64 K] 33) ∧ w1.heap[w.heap.size + 1]? = some (.cells #[.int .i64 C, .slice a n c, .slice eb en ed] 30)) := ⟨(show Below w.heap.size w _ from by (repeat' (first | (with_reducible exact Below.refl _ _) | (with_reducible assumption) | (with_reducible refine Below.setCell ?_ ?_ _) | (with_reducible refine Below.alloc ?_ ?_ _) | (with_reducible refine below_drewN ?_ _) | (with_reducible refine Below.drew ?_) | (with_reducible exact Nat.le_refl _) | omega | (simp; done) | (simp; omega)))).trans (hb1.mono (by simp; omega)), k1, k2⟩
  obtain ⟨p0, p1, pf, pl⟩ := kn_two k1
  obtain ⟨q0, q1, q2, qf, ql⟩ := cr_three k2
  have hsz1 : w.heap.size ≤ w1.heap.size := by omega
  clear hb1 k1 k2 pf qf
  obtain ⟨W2, hW2⟩ : ∃ W, W = w1.alloc (.cells #[.int .i64 A, .int .i64 V] 50) := ⟨_, rfl⟩
  obtain ⟨kf, hkf⟩ : ∃ k, k = w1.heap.size := ⟨_, rfl⟩
  have HW2 : Hid (Below w.heap.size w W2 ∧ W2.heap[w.heap.size]? = some (.cells #[.slice b m d, .int .i64 K] 33) ∧ W2.heap[w.heap.size + 1]? = some (.cells #[.int .i64 C, .slice a n c, .slice eb en ed] 30) ∧ W2.heap[kf]? = some (.cells #[.int .i64 A, .int .i64 V] 50)) := by
    rw [hW2, hkf]
    exact ⟨by have hB := HB.out.1; (repeat' (first | (with_reducible exact Below.refl _ _) | (with_reducible assumption) | (with_reducible refine Below.setCell ?_ ?_ _) | (with_reducible refine Below.alloc ?_ ?_ _) | (with_reducible refine below_drewN ?_ _) | (with_reducible refine Below.drew ?_) | (with_reducible exact Nat.le_refl _) | omega | (simp; done) | (simp; omega))), (Below.heap_alloc _ _ _ pl).trans HB.out.2.1, (Below.heap_alloc _ _ _ ql).trans HB.out.2.2, heap_alloc_new _ _⟩
  go_wp2
  clear p0 p1 pl q0 q1 q2 ql
  rw [← hW2, ← hkf]
  clear hW2 hkf HB
  obtain ⟨l0, l1, lf, ll⟩ := kn_two HW2.out.2.2.2
  obtain ⟨r0, r1, r2, rf, rl⟩ := cr_three HW2.out.2.2.1
  clear lf rf
  by_cases hC0 : C = 0
  case neg =>
    have HN : Hid (B = false) := by unfold Hid; rw [H.out.2.2]; simp [hC0]
    have hC1 : (C != 0) = true := by simpa using hC0
    have hC2 : (C == 0) = false := by simpa using hC0
    go_quiet (fail)
    go_wp2
    go_returns
    exact ⟨by rw [HN.out]; rfl, below_drewN HW2.out.1 _⟩
  subst hC0
  by_cases hA0 : A = 0
  case neg =>
    have HN : Hid (B = false) := by unfold Hid; rw [H.out.2.2]; simp [hA0]
    have hA1 : (A != 0) = true := by simpa using hA0
    have hA2 : (A == 0) = false := by simpa using hA0
    go_quiet (fail)
    go_wp2
    go_returns
    exact ⟨by rw [HN.out]; rfl, below_drewN HW2.out.1 _⟩
  subst hA0
  by_cases hE0 : 0 < en
  case neg =>
    have HN : Hid (B = false) := by unfold Hid; rw [H.out.2.2]; simp [hE0]
    obtain rfl : en = 0 := by omega
    go_quiet (fail)
    go_wp2
    go_returns
    exact ⟨by rw [HN.out]; rfl, below_drewN HW2.out.1 _⟩
  have hE1 : ¬ (en : Int) = 0 := by omega
  have hE2 : ((en : Int) == 0) = false := by simp; omega
  obtain ⟨ge, oe, hae, hge, hx0⟩ := rd_at (j := 0) (H.out.1.below HW2.out.1) hE0
  obtain ⟨en', rfl⟩ : ∃ e, en = e + 1 := ⟨en - 1, by omega⟩
  have hE3 : ¬ en' + 1 = 0 := by omega
  have hE4 : (((en' + 1 : Nat) : Int) == 0) = false := hE2
  obtain ⟨ge', oe', hae', _, hx1⟩ := rd_at (j := en') (H.out.1.below HW2.out.1) (by omega)
  subst hae
  injection hae' with hae'
  injection hae' with e1 e2
  subst e1 e2
  obtain ⟨X, hX⟩ : ∃ X, X = es.getD 0 0 := ⟨_, rfl⟩
  obtain ⟨Y, hY⟩ : ∃ X, X = es.getD en' 0 := ⟨_, rfl⟩
  rw [← hX] at hx0
  rw [← hY] at hx1
  have HBB : Hid (B = (decide (Y = V) && faK es (en' + 1) && decide (X = V2))) := by
    unfold Hid; rw [H.out.2.2, hX, hY]; simp
  have e9 : (((en' + 1 : Nat) : Int) - 1) = (en' : Int) := by omega
  have hw9 : IntKind.i64.wrap (en' : Int) = (en' : Int) := by rw [IntKind.wrap_i64]; omega
  have hb9 : (0 : Int) ≤ (en' : Int) := by omega
  have hb8 : (en' : Int) < (en' : Int) + 1 := by omega
  have hx0' : W2.cell? ⟨ge, oe, none⟩ = some (.int .i64 X) := by simpa using hx0
  clear hX hY hx0
  by_cases hYV : Y = V
  case neg =>
    have HN : Hid (B = false) := by unfold Hid; rw [HBB.out]; simp [hYV]
    have d1 : (Y != V) = true := by simpa using hYV
    have d2 : (Y == V) = false := by simpa using hYV
    go_quiet (fail)
    go_wp2
    go_returns
    exact ⟨by rw [HN.out]; rfl, below_drewN HW2.out.1 _⟩
  subst hYV
  have HBC : Hid (B = (faK es (en' + 1) && decide (X = V2))) := by unfold Hid; rw [HBB.out]; simp
  clear HBB
  go_quiet (fail)
  go_wp2
  clear hx1 l0 l1 ll
  go_loopw [11] (fun i wr => ∃ k : Nat, 1 ≤ k ∧ k ≤ en' + 1 ∧ i = .int .i64 k ∧ Hid (faK es k = true ∧ ∃ q, wr = W2.drewN q)) (fun i _ => (en' + 1) - (intOf i).toNat)
  case atStart => exact ⟨1, Nat.le_refl _, by omega, rfl, by simp [faK], _, rfl⟩
  case round =>
    obtain ⟨k, hk1, hk, rfl, hR⟩ := hrel
    obtain ⟨q, hq⟩ := hR.out.2
    have hbl : Below w.heap.size w wr := by rw [hq]; exact below_drewN HW2.out.1 _
    have s2 : wr.cell? ⟨w.heap.size + 1, 2, none⟩ = some (.slice (some ⟨ge, oe, none⟩) (en' + 1) ed) := by rw [hq]; exact r2
    have s0 : wr.cell? ⟨ge, oe, none⟩ = some (.int .i64 X) := by rw [hq]; exact hx0'
    by_cases hlt : k < en' + 1
    · have b0 : (0 : Int) ≤ (k : Int) := by omega
      have b1 : (k : Int) < ((en' + 1 : Nat) : Int) := by omega
      obtain ⟨kk, rfl⟩ : ∃ kk, k = kk + 1 := ⟨k - 1, by omega⟩
      obtain ⟨g, o, hag, hgw, hy0⟩ := rd_at (j := kk) (H.out.1.below hbl) (by omega)
      obtain ⟨g', o', hag', _, hy1⟩ := rd_at (j := kk + 1) (H.out.1.below hbl) hlt
      injection hag with hag
      injection hag with e1 e2
      subst e1 e2
      injection hag' with hag'
      injection hag' with e1 e2
      subst e1 e2
      obtain ⟨Z0, hZ0⟩ : ∃ X, X = es.getD kk 0 := ⟨_, rfl⟩
      obtain ⟨Z1, hZ1⟩ : ∃ X, X = es.getD (kk + 1) 0 := ⟨_, rfl⟩
      rw [← hZ0] at hy0
      rw [← hZ1] at hy1
      have HS : Hid (faK es (kk + 1 + 1) = decide (Z1 < Z0)) := by
        unfold Hid
        rw [faK, hR.out.1, hZ0, hZ1]
        simp
      have HQ : Hid (wr = W2.drewN q) := hq
      have e8 : (((kk + 1 : Nat) : Int) - 1) = (kk : Int) := by omega
      clear hZ0 hZ1 hq hR
      by_cases hc : Z1 < Z0
      · have d0 : decide (Z0 ≤ Z1) = false := by simp; omega
        have HN : Hid (faK es (kk + 1 + 1) = true) := by unfold Hid; rw [HS.out]; simp [hc]
        go_wp2
        go_quiet (fail)
        go_wp2
        go_roundw
        case rel => exact ⟨kk + 1 + 1, by omega, by omega, by go_num, HN.out, by rw [HQ.out]; exact ⟨_, World.drewN_drewN _ _ _⟩⟩
        case measure => simp [intOf]; omega
      · have hc2 : Z0 ≤ Z1 := by omega
        have HN : Hid (B = false) := by
          unfold Hid; rw [HBC.out, faK_no (show kk + 1 + 1 ≤ en' + 1 by omega) (by rw [HS.out]; simp [hc])]; rfl
        go_wp2
        go_quiet (fail)
        go_wp2
        go_returns
        exact ⟨by rw [HN.out]; rfl, below_drewN hbl _⟩
    · have b1 : ¬ (k : Int) < ((en' + 1 : Nat) : Int) := by omega
      have hfa : faK es (en' + 1) = true := faK_down (show en' + 1 ≤ k by omega) hR.out.1
      have HN : Hid (B = decide (X = V2)) := by unfold Hid; rw [HBC.out, hfa]; rfl
      have kk : wr.heap[w.heap.size]? = some (.cells #[.slice b m d, .int .i64 K] 33) := by rw [hq]; exact HW2.out.2.1
      obtain ⟨p0, p1, pf, pl⟩ := kn_two kk
      have hrl : w.heap.size + 1 < wr.heap.size := by rw [hq]; exact rl
      have hgl : ge < wr.heap.size := by rw [hq]; exact hge
      have HBL : Hid (Below w.heap.size w wr) := hbl
      have HP3 : Hid (∀ x : Und wr.heap.size wr, Calls Try.prog 23 #[.slice ta tn tc, .slice ta tn tc, .int .i64 len, .agg #[.slice b m d, .int .i64 K]] x.W fun e w' => e = .returned (.agg #[.int .i64 A2, .int .i64 V2]) ∧ Below x.W.heap.size x.W w') := fun x => HP2.out _ (HBL.out.trans (x.below.mono HBL.out.size))
      clear hfa kk hR hq hbl r0 r1 r2 rl hx0' HP1 HP2 pf
      have hfl := fldSI1 A2 V2
      by_cases hXV : X = V2
      · have HE : Hid (B = true) := by unfold Hid; rw [HN.out]; simp [hXV]
        subst hXV
        go_wp2
        (refine wp_region_und (by kernel_rfl) (by kernel_rfl) (fun hund => ?_); (repeat (go_big_quiet_step (first | (go_at_call 23; with_reducible refine und_call ?_ (HP3.out _); exact Nat.le_refl _)))); with_reducible refine wpQuiet_nil ?_; clear hund; intro W1 hb1; obtain ⟨hc1, hf1⟩ := undcell hb1)
        go_wp2
        go_returns
        exact ⟨by rw [HE.out]; rfl, HBL.out.trans (hb1.mono HBL.out.size)⟩
      · have HE : Hid (B = false) := by unfold Hid; rw [HN.out]; simp [hXV]
        have d1 : (X == V2) = false := by simpa using hXV
        go_wp2
        (refine wp_region_und (by kernel_rfl) (by kernel_rfl) (fun hund => ?_); (repeat (go_big_quiet_step (first | (go_at_call 23; with_reducible refine und_call ?_ (HP3.out _); exact Nat.le_refl _)))); with_reducible refine wpQuiet_nil ?_; clear hund; intro W1 hb1; obtain ⟨hc1, hf1⟩ := undcell hb1)
        go_wp2
        go_returns
        exact ⟨by rw [HE.out]; rfl, HBL.out.trans (hb1.mono HBL.out.size)⟩

end Go.Proofs.Ytfjcebgknpccbab
