/- Proved here: CheckMatch of the model: cmB. -/
import Derived.Test.YtbfieehlekgjeaaNmR
import Derived.Test.YtbfieehlekgjeaaNmL
namespace Go.Proofs.Ytbfieehlekgjeaa
open Go.RowKit
set_option linter.unusedVariables false
set_option linter.unusedSimpArgs false

theorem rnC_inv {N : Int} {s : List Dv} {nets : List Int} (h : rnC N s nets = 0) : nlF N s = 0 ∧ nmB nets N = true := by
  unfold rnC at h
  by_cases h1 : nlF N s = 0
  · rw [if_pos h1] at h
    by_cases h2 : nmB nets N = true
    · exact ⟨h1, h2⟩
    · rw [if_neg h2] at h; omega
  · rw [if_neg h1] at h; exact absurd h h1
theorem scB_hit {nets : List Int} {a b : List Dv} {k : Nat} (hk : k < b.length) (h : ¬ (a.map (rnD nets)).count b[k] = b.count b[k]) : scB nets a b = false := by
  unfold scB
  rw [List.all_eq_false]
  exact ⟨b[k], List.getElem_mem hk, by simpa using h⟩
theorem scB_all {nets : List Int} {a b : List Dv} (h : ∀ k (hk : k < b.length), (a.map (rnD nets)).count b[k] = b.count b[k]) : scB nets a b = true := by
  unfold scB
  rw [List.all_eq_true]
  intro d hd
  obtain ⟨k, hk, rfl⟩ := List.getElem_of_mem hd
  exact decide_eq_true (h k hk)

set_option maxRecDepth 10000 in
set_option maxHeartbeats 6400000 in
theorem spec_match (N M : Int) {w : World} {va vb vn : Value} {a b : List Dv} {nets : List Int} (hal : a.length ≤ 1048576) (hbl : b.length ≤ 1048576) (hnl : nets.length ≤ 1048576) (hsa : ∀ j (h : j < a.length), smD 1048576 a[j]) (hsb : ∀ j (h : j < b.length), smD 1048576 b[j]) (ha : RD w va a) (hb : RD w vb b) (hn : RdI w vn nets) :
    Calls Try.prog 27 #[.agg #[.int .i64 N, va], .agg #[.int .i64 M, vb], vn] w fun e w' => e = .returned (.bool (cmB N M a b nets)) ∧ Below w.heap.size w w' := by
  obtain ⟨aa, ca, rfl⟩ := ha.form
  obtain ⟨ab, cb, rfl⟩ := hb.form
  obtain ⟨an, cn, rfl⟩ := hn.form
  obtain ⟨n, hnn⟩ : ∃ n, n = a.length := ⟨_, rfl⟩
  obtain ⟨m, hmm⟩ : ∃ m, m = b.length := ⟨_, rfl⟩
  obtain ⟨l, hll⟩ : ∃ l, l = nets.length := ⟨_, rfl⟩
  obtain ⟨D, hD⟩ : ∃ D, D = cmB N M a b nets := ⟨_, rfl⟩
  obtain ⟨G, hG⟩ : ∃ G, G = nlF M b := ⟨_, rfl⟩
  obtain ⟨C, hC⟩ : ∃ C, C = rnC N a nets := ⟨_, rfl⟩
  obtain ⟨R, hR⟩ : ∃ R, R = rnN N a nets := ⟨_, rfl⟩
  rw [← hnn] at ha ⊢
  rw [← hmm] at hb ⊢
  rw [← hll] at hn ⊢
  rw [← hD]
  have H : Hid ((RD w (.slice aa n ca) a ∧ RD w (.slice ab m cb) b ∧ RdI w (.slice an l cn) nets) ∧ (n = a.length ∧ m = b.length ∧ l = nets.length ∧ D = cmB N M a b nets) ∧ nets.length ≤ 1048576) := ⟨⟨ha, hb, hn⟩, ⟨hnn, hmm, hll, hD⟩, hnl⟩
  have HFB : Hid (G = nlF M b ∧ ∀ W, Below w.heap.size w W → Calls Try.prog 14 #[.agg #[.int .i64 M, .slice ab m cb]] W fun e w' => e = .returned (.int .i64 G) ∧ Below W.heap.size W w') := ⟨hG, fun W hW => by rw [hG]; exact spec_nl M hbl hsb (hb.below hW)⟩
  have HRN : Hid (C = rnC N a nets ∧ ∀ W, Below w.heap.size w W → Calls Try.prog 18 #[.agg #[.int .i64 N, .slice aa n ca], .slice an l cn] W fun e w' => ∃ v', e = .returned (.agg #[.int .i64 C, .int .i64 R, v']) ∧ RD w' v' (rnL N a nets) ∧ Below W.heap.size W w') := ⟨hC, fun W hW => by rw [hC, hR]; exact spec_rename N hal hnl hsa (ha.below hW) (hn.below hW)⟩
  clear ha hb hn hnn hmm hll hD hG hnl hal hbl hsa hsb hC hR
  go_enter Try.func27, Try.ntmps27
  go_wp2_with (fail)
  refine (HFB.out.2 _ (by (repeat' (first | (with_reducible exact Below.refl _ _) | (with_reducible assumption) | (with_reducible refine Below.setCell ?_ ?_ _) | (with_reducible refine Below.alloc ?_ ?_ _) | (with_reducible refine below_drewN ?_ _) | (with_reducible refine Below.drew ?_) | (with_reducible exact Nat.le_refl _) | omega | (simp; done) | (simp; omega))))).mono ?_
  rintro e w1 ⟨rfl, hb1⟩
  have B1 : Hid (B2 w N M (.slice aa n ca) (.slice ab m cb) w1) := (B2.new w N M _ _).next hb1
  clear hb1
  by_cases hG0 : G = 0
  case neg =>
    have HE : Hid (D = false) := by unfold Hid; rw [H.out.2.1.2.2.2]; unfold cmB; rw [decide_eq_false (p := nlF M b = 0) (fun e => hG0 (by rw [HFB.out.1, e]))]; simp
    go_wp2
    go_returns
    exact ⟨by rw [HE.out]; rfl, B1.out.bl⟩
  obtain ⟨a0, a1, b0, b1, l1, l2⟩ := SB2_two B1.out.bx
  subst hG0
  go_wp2_with (fail)
  refine (HRN.out.2 _ B1.out.bl).mono ?_
  rintro e w2 ⟨rv, rfl, hrd, hb2⟩
  obtain ⟨ra, rc, rfl⟩ := hrd.form
  obtain ⟨rl, hrl⟩ : ∃ rl, rl = (rnL N a nets).length := ⟨_, rfl⟩
  rw [← hrl] at hrd ⊢
  clear hrl
  have B2' : Hid (B2 w N M (.slice aa n ca) (.slice ab m cb) w2 ∧ RD w2 (.slice ra rl rc) (rnL N a nets)) := ⟨B1.out.next hb2, hrd⟩
  clear hb2 a0 a1 b0 b1 l1 l2 hrd
  by_cases hC0 : C = 0
  case neg =>
    have HE : Hid (D = false) := by
      unfold Hid; rw [H.out.2.1.2.2.2]
      refine Bool.eq_false_iff.2 fun e => hC0 ?_
      unfold cmB at e
      simp only [Bool.and_eq_true, decide_eq_true_iff] at e
      rw [HRN.out.1]
      exact rnC_zero e.1.1.1.1 e.1.2
    obtain ⟨a0, a1, b0, b1, l1, l2⟩ := SB2_two B2'.out.1.bx
    have hBl := B2'.out.1.bl
    go_wp2
    go_returns
    exact ⟨by rw [HE.out]; rfl, by (repeat' (first | (with_reducible exact Below.refl _ _) | (with_reducible assumption) | (with_reducible refine Below.setCell ?_ ?_ _) | (with_reducible refine Below.alloc ?_ ?_ _) | (with_reducible refine below_drewN ?_ _) | (with_reducible refine Below.drew ?_) | (with_reducible exact Nat.le_refl _) | omega | (simp; done) | (simp; omega)))⟩
  have HG : Hid (nlF N a = 0 ∧ nmB nets N = true) := rnC_inv (by rw [← HRN.out.1]; exact hC0)
  have HGG : Hid (NlGood N a ∧ NlGood M b ∧ rnL N a nets = a.map (rnD nets)) := ⟨nlF_good HG.out.1, nlF_good HFB.out.1.symm, by rw [rnL, if_pos (by rw [← HRN.out.1]; exact hC0)]⟩
  have HD : Hid (D = (decide (N = M ∧ n = m) && sdB nets a b)) := by
    unfold Hid
    rw [H.out.2.1.2.2.2]
    unfold cmB
    rw [HG.out.1, HG.out.2, ← HFB.out.1, H.out.2.1.1, H.out.2.1.2.1]
    simp
  subst hC0
  by_cases hNM : N = M
  case neg =>
    have HE : Hid (D = false) := by unfold Hid; rw [HD.out, decide_eq_false (fun e => hNM e.1)]; rfl
    obtain ⟨a0, a1, b0, b1, l1, l2⟩ := SB2_two B2'.out.1.bx
    have hBl := B2'.out.1.bl
    go_wp2
    go_returns
    exact ⟨by rw [HE.out]; rfl, by (repeat' (first | (with_reducible exact Below.refl _ _) | (with_reducible assumption) | (with_reducible refine Below.setCell ?_ ?_ _) | (with_reducible refine Below.alloc ?_ ?_ _) | (with_reducible refine below_drewN ?_ _) | (with_reducible refine Below.drew ?_) | (with_reducible exact Nat.le_refl _) | omega | (simp; done) | (simp; omega)))⟩
  subst hNM
  by_cases hnm : n = m
  case neg =>
    have HE : Hid (D = false) := by unfold Hid; rw [HD.out, decide_eq_false (fun e => hnm e.2)]; rfl
    obtain ⟨a0, a1, b0, b1, l1, l2⟩ := SB2_two B2'.out.1.bx
    have hBl := B2'.out.1.bl
    have hi : ¬ (n : Int) = (m : Int) := by omega
    go_wp2
    go_returns
    exact ⟨by rw [HE.out]; rfl, by (repeat' (first | (with_reducible exact Below.refl _ _) | (with_reducible assumption) | (with_reducible refine Below.setCell ?_ ?_ _) | (with_reducible refine Below.alloc ?_ ?_ _) | (with_reducible refine below_drewN ?_ _) | (with_reducible refine Below.drew ?_) | (with_reducible exact Nat.le_refl _) | omega | (simp; done) | (simp; omega)))⟩
  subst hnm
  have HS : Hid (D = scB nets a b) := by
    unfold Hid
    rw [HD.out, decide_eq_true ⟨rfl, rfl⟩, ← sd_sc HG.out.2 HGG.out.1.pin (by rw [← H.out.2.1.1, ← H.out.2.1.2.1])]
    rfl
  have hn12 : n ≤ 12 := by rw [H.out.2.1.1]; exact HGG.out.1.len
  obtain ⟨a0, a1, b0, b1, l1, l2⟩ := SB2_two B2'.out.1.bx
  obtain ⟨Z, hZ⟩ : ∃ Z, Z = w2.heap.size := ⟨_, rfl⟩
  have HZ : Hid (Z = w2.heap.size) := hZ
  clear hZ
  have hBl := B2'.out.1.bl
  go_wp2
  go_loopw [8] (fun i wr => ∃ k : Nat, k ≤ n ∧ i = .int .i64 k ∧ Hid ((∀ j (h : j < b.length), j < k → (a.map (rnD nets)).count b[j] = b.count b[j]) ∧ B2 w N N (.slice aa n ca) (.slice ab n cb) wr ∧ wr.heap[w2.heap.size]? = some (.cells #[.int .i64 0, .int .i64 R, .slice ra rl rc] 48) ∧ Below w2.heap.size w2 wr)) (fun i _ => n - (intOf i).toNat)
  case atStart =>
    refine ⟨0, Nat.zero_le _, rfl, fun j _ h => by omega, B2'.out.1.next ?_, heap_alloc_new w2 _, ?_⟩ <;> (repeat' (first | (with_reducible exact Below.refl _ _) | (with_reducible assumption) | (with_reducible refine Below.setCell ?_ ?_ _) | (with_reducible refine Below.alloc ?_ ?_ _) | (with_reducible refine below_drewN ?_ _) | (with_reducible refine Below.drew ?_) | (with_reducible exact Nat.le_refl _) | omega | (simp; done) | (simp; omega)))
  case round =>
    clear a0 a1 b0 b1 l1 l2 hBl
    obtain ⟨k, hk, rfl, hR⟩ := hrel
    rw [← HZ.out] at hR ⊢
    obtain ⟨a0, a1, b0, b1, l1, l2⟩ := SB2_two hR.out.2.1.bx
    by_cases hlt : k < n
    · have hkl : k < b.length := by rw [← H.out.2.1.2.1]; exact hlt
      obtain ⟨r0, r1, r2, rf, rlt⟩ := three_at' hR.out.2.2.1
      obtain ⟨g, o, c2, he, hg, x, hx, c0, c1⟩ := (H.out.1.2.1.below hR.out.2.1.bl).at hkl
      simp only [Value.slice.injEq] at he
      obtain ⟨rfl, hx1, hx2⟩ := he
      clear hx1 hx2
      obtain ⟨XK, xa, xn, xc⟩ := x
      dsimp only at c0 c1
      obtain ⟨t1, ht1⟩ : ∃ t1 : Nat, t1 = (a.map (rnD nets)).count b[k] := ⟨_, rfl⟩
      obtain ⟨t2, ht2⟩ : ∃ t2 : Nat, t2 = b.count b[k] := ⟨_, rfl⟩
      have hrr : RD wr (.slice ra rl rc) (a.map (rnD nets)) := by
        have := B2'.out.2.below (show Below w2.heap.size w2 wr by have h9 := hR.out.2.2.2; rw [HZ.out] at h9; exact h9)
        rwa [HGG.out.2.2] at this
      have hbb := H.out.1.2.1.below hR.out.2.1.bl
      have hc1 : Hid (∀ X : Und wr.heap.size wr, Calls Try.prog 54 #[.slice ra rl rc, .agg #[.int .i64 XK, .slice xa xn xc]] X.W fun e w' => e = .returned (.int .i64 (t1 : Int)) ∧ Below X.W.heap.size X.W w') := fun X => by
        rw [ht1]
        refine spec_count ⟨XK, xa, xn, xc⟩ b[k] (by simpa using HGG.out.1.len) (fun e he => ?_) (by have := HGG.out.2.1.pl _ (List.getElem_mem hkl); omega) (hx.below X.below) (hrr.below X.below)
        obtain ⟨d, hd, rfl⟩ := List.mem_map.1 he
        rw [rnD, rnP_len]
        exact HGG.out.1.pl d hd
      have hc2 : Hid (∀ X : Und wr.heap.size wr, Calls Try.prog 54 #[.slice (some ⟨g, o, none⟩) n cb, .agg #[.int .i64 XK, .slice xa xn xc]] X.W fun e w' => e = .returned (.int .i64 (t2 : Int)) ∧ Below X.W.heap.size X.W w') := fun X => by
        rw [ht2]
        exact spec_count ⟨XK, xa, xn, xc⟩ b[k] HGG.out.2.1.len HGG.out.2.1.pl (by have := HGG.out.2.1.pl _ (List.getElem_mem hkl); omega) (hx.below X.below) (hbb.below X.below)
      have HT : Hid (t1 = (a.map (rnD nets)).count b[k] ∧ t2 = b.count b[k]) := ⟨ht1, ht2⟩
      have HR : Hid _ := hR.out
      clear hx hR hrr hbb ht1 ht2
      have b2 : (0 : Int) ≤ (k : Int) := by omega
      have b3 : (k : Int) < (n : Int) := by omega
      go_wp2_with (fail)
      (refine wp_region_und (by kernel_rfl) (by kernel_rfl) (fun hund => ?_); (repeat (go_big_quiet_step (first | (go_at_call 54; with_reducible refine und_call ?_ (hc1.out _); exact Nat.le_refl _) | (go_at_call 54; with_reducible refine und_call ?_ (hc2.out _); exact Nat.le_refl _)))); with_reducible refine wpQuiet_nil ?_; clear hund; intro W1 hb1; obtain ⟨hc1, hf1⟩ := bcell hb1)
      have HB4 : Hid (B2 w N N (.slice aa n ca) (.slice (some ⟨g, o, none⟩) n cb) W1 ∧ W1.heap[Z]? = some (.cells #[.int .i64 0, .int .i64 R, .slice ra rl rc] 48) ∧ Below Z w2 W1) := by
        refine ⟨HR.out.2.1.next hb1, (hb1.block _ rlt).trans HR.out.2.2.1, HR.out.2.2.2.trans (hb1.mono ?_)⟩
        have := HR.out.2.2.2.size; rw [HZ.out]; exact this
      clear hb1 hc1 hf1 hc2 c0 c1 a0 a1 b0 b1 l1 l2 r0 r1 r2 rf rlt
      by_cases ht : t1 = t2
      · have HP2 : Hid (∀ j (h : j < b.length), j < k + 1 → (a.map (rnD nets)).count b[j] = b.count b[j]) := fun j hj hjk => by
          rcases (by omega : j < k ∨ j = k) with e | rfl
          · exact HR.out.1 j hj e
          · rw [← HT.out.1, ← HT.out.2]; exact ht
        subst ht
        go_wp2
        go_roundw
        case rel => exact ⟨k + 1, by omega, by go_num, HP2.out, HB4.out⟩
        case measure => simp [intOf]; omega
      · have HE : Hid (D = false) := by
          unfold Hid; rw [HS.out]
          exact scB_hit hkl (by rw [← HT.out.1, ← HT.out.2]; exact ht)
        have hti : ¬ (t1 : Int) = (t2 : Int) := by omega
        go_wp2
        go_returns
        exact ⟨by rw [HE.out]; rfl, HB4.out.1.bl⟩
    · have HE : Hid (D = true ∧ Below w.heap.size w wr) := by
        refine ⟨?_, hR.out.2.1.bl⟩
        rw [HS.out]
        exact scB_all (fun j hj => hR.out.1 j hj (by rw [← H.out.2.1.2.1] at hj; omega))
      clear hR
      go_wp2
      go_returns
      exact ⟨by rw [HE.out.1]; rfl, HE.out.2⟩

end Go.Proofs.Ytbfieehlekgjeaa
