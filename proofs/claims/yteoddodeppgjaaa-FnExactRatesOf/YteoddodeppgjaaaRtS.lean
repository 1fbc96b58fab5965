/- Proved here: RatesOf of the model. -/
import Derived.Test.YteoddodeppgjaaaCpS
import Derived.Test.YteoddodeppgjaaaGfS
import Derived.Test.YteoddodeppgjaaaRtM
import Derived.Test.YteoddodeppgjaaaIns
import Derived.Test.YteoddodeppgjaaaReg
namespace Go.Proofs.Yteoddodeppgjaaa
open Go.RowKit
set_option linter.unusedVariables false
set_option linter.unusedSimpArgs false

set_option maxHeartbeats 800000 in
theorem spec_minI (x y : Int) (w : World) : Calls Try.prog 43 #[.int .i64 x, .int .i64 y] w fun e w' => e = .returned (.int .i64 (if x < y then x else y)) ∧ w' = w := by
  by_cases h : x < y
  · rw [if_pos h]
    go_enter Try.func43, Try.ntmps43
    go_wp2
    go_returns
    exact ⟨rfl, rfl⟩
  · rw [if_neg h]
    go_enter Try.func43, Try.ntmps43
    go_wp2
    go_returns
    exact ⟨rfl, rfl⟩

set_option maxRecDepth 10000 in
set_option maxHeartbeats 12800000 in
theorem spec_rt {w : World} {v vt : Value} {ls : List (List Int)} {s : List Int} (hn : SmR ls) (hs : s.length ≤ 1048576) (h : RdR w v ls) (ht : RdI w vt s) :
    Calls Try.prog 23 #[v, vt] w fun e w' => ∃ v' vs, e = .returned (.agg #[.int .i64 (rtC ls s), v']) ∧ RI w' w.heap.size v' (rtL ls s) vs ∧ Below w.heap.size w w' := by
  obtain ⟨a, c, rfl⟩ := h.form
  obtain ⟨ta, tc, rfl⟩ := ht.form
  obtain ⟨n, hnn⟩ : ∃ n, n = ls.length := ⟨_, rfl⟩
  obtain ⟨tn, htn⟩ : ∃ n, n = s.length := ⟨_, rfl⟩
  obtain ⟨A, hA⟩ : ∃ C, C = gfC ls 1000000 := ⟨_, rfl⟩
  obtain ⟨C, hC⟩ : ∃ C, C = rtC ls s := ⟨_, rfl⟩
  rw [← hnn] at h ⊢
  rw [← htn] at ht hs ⊢
  rw [← hC]
  have HF : Hid (∀ W, Below w.heap.size w W → Calls Try.prog 10 #[.slice a n c] W fun e w' => e = .returned (.int .i64 A) ∧ Below W.heap.size W w') := fun W hW => by rw [hA]; exact spec_gf hn (h.below hW)
  have H : Hid (RdR w (.slice a n c) ls ∧ n = ls.length ∧ RdI w (.slice ta tn tc) s ∧ A = gfC ls 1000000 ∧ C = (if A = 0 then tbF s else A) ∧ rtL ls s = (if C = 0 then tnL (rtT s) ls else []) ∧ tn = s.length) := ⟨h, hnn, ht, hA, by rw [hC, hA]; rfl, by rw [hC]; rfl, htn⟩
  have HO : Hid (∀ (x y : Int) (W : World), Calls Try.prog 43 #[.int .i64 x, .int .i64 y] W fun e w' => e = .returned (.int .i64 (if x < y then x else y)) ∧ w' = W) := spec_minI
  clear h hn hC hnn ht hA htn
  go_enter Try.func23, Try.ntmps23
  go_wp2_with (fail)
  refine (HF.out _ (by (repeat' (first | (with_reducible exact Below.refl _ _) | (with_reducible assumption) | (with_reducible refine Below.setCell ?_ ?_ _) | (with_reducible refine Below.alloc ?_ ?_ _) | (with_reducible refine below_drewN ?_ _) | (with_reducible refine Below.drew ?_) | (with_reducible exact Nat.le_refl _) | omega | (simp; done) | (simp; omega))))).mono ?_
  rintro e w1 ⟨rfl, hb1⟩
  have HB : Hid (w1.heap[w.heap.size]? = some (.cells #[.int .i64 0, .slice none 0 0] 33) ∧ Below w.heap.size w w1 ∧ w.heap.size < w1.heap.size) := by
    have k2 := (hb1.block w.heap.size (by simp)).trans (heap_alloc_new w (.cells #[.int .i64 0, .slice none 0 0] 33))
    exact ⟨k2, (show Below w.heap.size w _ from by (repeat' (first | (with_reducible exact Below.refl _ _) | (with_reducible assumption) | (with_reducible refine Below.setCell ?_ ?_ _) | (with_reducible refine Below.alloc ?_ ?_ _) | (with_reducible refine below_drewN ?_ _) | (with_reducible refine Below.drew ?_) | (with_reducible exact Nat.le_refl _) | omega | (simp; done) | (simp; omega)))).trans (hb1.mono (by simp)), ltOf k2⟩
  clear HF hb1
  obtain ⟨q0, q1, qf0, qf1, ql⟩ := two_of HB.out.1
  by_cases hA0 : A = 0
  case neg =>
    have HV : Hid (C = A ∧ rtL ls s = []) := by
      have e : C = A := by rw [H.out.2.2.2.2.1, if_neg hA0]
      exact ⟨e, by rw [H.out.2.2.2.2.2.1, if_neg (by rw [e]; exact hA0)]⟩
    have hA1 : (A != 0) = true := by simpa using hA0
    go_wp2
    try simp only [Exit.inBlock, Exit.then]
    refine bodyPost_ret (by simp [results, Try.results23, go_sem, q0, q1, ql]; try rfl) rfl ⟨.slice none 0 0, [], by rw [HV.out.1], ?_, ?_⟩
    · rw [HV.out.2]; exact RI.nil _ _
    · have hB := HB.out.2.1
      (repeat' (first | (with_reducible exact Below.refl _ _) | (with_reducible assumption) | (with_reducible refine Below.setCell ?_ ?_ _) | (with_reducible refine Below.alloc ?_ ?_ _) | (with_reducible refine below_drewN ?_ _) | (with_reducible refine Below.drew ?_) | (with_reducible exact Nat.le_refl _) | omega | (simp; done) | (simp; omega)))
  have HCP : Hid (C = tbF s) := by unfold Hid; rw [H.out.2.2.2.2.1, if_pos hA0]
  have HA0 : Hid (gfC ls 1000000 = 0) := H.out.2.2.2.1.symm.trans hA0
  subst hA0
  rcases Nat.eq_zero_or_pos tn with h0 | h0
  · have HV : Hid (C = 1 ∧ rtL ls s = []) := by
      have e : C = 1 := by rw [HCP.out, tbF, if_pos (by rw [← H.out.2.2.2.2.2.2]; exact h0)]
      exact ⟨e, by rw [H.out.2.2.2.2.2.1, if_neg (by rw [e]; decide)]⟩
    clear H HCP
    subst h0
    go_wp2
    try simp only [Exit.inBlock, Exit.then]
    refine bodyPost_ret (by simp [results, Try.results23, go_sem, q0, q1, ql]; try rfl) rfl ⟨.slice none 0 0, [], by rw [HV.out.1], ?_, ?_⟩
    · rw [HV.out.2]; exact RI.nil _ _
    · have hB := HB.out.2.1
      (repeat' (first | (with_reducible exact Below.refl _ _) | (with_reducible assumption) | (with_reducible refine Below.setCell ?_ ?_ _) | (with_reducible refine Below.alloc ?_ ?_ _) | (with_reducible refine below_drewN ?_ _) | (with_reducible refine Below.drew ?_) | (with_reducible exact Nat.le_refl _) | omega | (simp; done) | (simp; omega)))
  have h01 : ¬ (tn : Int) = 0 := by omega
  have h02 : ¬ tn = 0 := by omega
  by_cases h8 : (64 : Int) < (tn : Int)
  · have HV : Hid (C = 2 ∧ rtL ls s = []) := by
      have e : C = 2 := by rw [HCP.out, tbF, if_neg (by rw [← H.out.2.2.2.2.2.2]; omega), if_pos (by rw [← H.out.2.2.2.2.2.2]; omega)]
      exact ⟨e, by rw [H.out.2.2.2.2.2.1, if_neg (by rw [e]; decide)]⟩
    clear H HCP
    go_wp2
    try simp only [Exit.inBlock, Exit.then]
    refine bodyPost_ret (by simp [results, Try.results23, go_sem, q0, q1, ql]; try rfl) rfl ⟨.slice none 0 0, [], by rw [HV.out.1], ?_, ?_⟩
    · rw [HV.out.2]; exact RI.nil _ _
    · have hB := HB.out.2.1
      (repeat' (first | (with_reducible exact Below.refl _ _) | (with_reducible assumption) | (with_reducible refine Below.setCell ?_ ?_ _) | (with_reducible refine Below.alloc ?_ ?_ _) | (with_reducible refine below_drewN ?_ _) | (with_reducible refine Below.drew ?_) | (with_reducible exact Nat.le_refl _) | omega | (simp; done) | (simp; omega)))
  have HC : Hid (C = if inR 1000000 s = true then 0 else 3) := by unfold Hid; rw [HCP.out, tbF, if_neg (by rw [← H.out.2.2.2.2.2.2]; omega), if_neg (by rw [← H.out.2.2.2.2.2.2]; omega)]
  have hq1 : ((tn : Int) == 0) = false := by simpa using h01
  have hq2 : decide ((64 : Int) < (tn : Int)) = false := decide_eq_false h8
  have HTB : Hid (RdI w1 (.slice ta tn tc) s ∧ tn = s.length) := ⟨H.out.2.2.1.below HB.out.2.1, H.out.2.2.2.2.2.2⟩
  clear HCP
  go_wp2
  go_loopw [6] (fun i wr => ∃ k : Nat, k ≤ tn ∧ i = .int .i64 k ∧ wr = w1 ∧ Hid (inR 1000000 (s.drop k) = inR 1000000 s)) (fun i _ => tn - (intOf i).toNat)
  case atStart => exact ⟨0, Nat.zero_le _, rfl, rfl, rfl⟩
  case round =>
    obtain ⟨k, hk, rfl, rfl, hR⟩ := hrel
    by_cases hlt : k < tn
    · obtain ⟨g2, o2, rfl, hg2, d0⟩ := rd_at HTB.out.1 hlt
      obtain ⟨x, hx⟩ : ∃ x, x = s.getD k 0 := ⟨_, rfl⟩
      rw [← hx] at d0
      obtain ⟨q, hq⟩ : ∃ q, q = decide (0 ≤ x ∧ x ≤ 1000000) := ⟨_, rfl⟩
      have HI2 : Hid (∀ W, Calls Try.prog 42 #[.int .i64 x, .int .i64 0, .int .i64 1000000] W fun e w' => e = .returned (.bool q) ∧ w' = W) := spec_ins x 0 1000000 q hq
      have HQ : Hid (inR 1000000 s = (q && inR 1000000 (s.drop (k + 1)))) := by
        unfold Hid; rw [← hR.out, inR_step (by rw [← HTB.out.2]; exact hlt), ← hx, hq]
      clear hx hq hR
      have b0 : (0 : Int) ≤ (k : Int) := by omega
      have b1 : (k : Int) < (tn : Int) := by omega
      go_wp2_with (fail)
      refine (HI2.out _).mono ?_
      rintro e w5 ⟨rfl, rfl⟩
      clear HI2
      cases q with
      | true =>
        have HM : Hid (inR 1000000 (s.drop (k + 1)) = inR 1000000 s) := by unfold Hid; rw [HQ.out]; rfl
        go_wp2
        go_roundw
        case rel => exact ⟨k + 1, by omega, by go_num, by first | rfl | trivial, HM.out⟩
        case measure => simp [intOf]; omega
      | false =>
        have HV : Hid (C = 3 ∧ rtL ls s = []) := by
          have e : C = 3 := by rw [HC.out, HQ.out]; rfl
          exact ⟨e, by rw [H.out.2.2.2.2.2.1, if_neg (by rw [e]; decide)]⟩
        go_wp2
        try simp only [Exit.inBlock, Exit.then]
        refine bodyPost_ret (by simp [results, Try.results23, go_sem, q0, q1, ql]; try rfl) rfl ⟨.slice none 0 0, [], by rw [HV.out.1], ?_, ?_⟩
        · rw [HV.out.2]; exact RI.nil _ _
        · have hB := HB.out.2.1
          (repeat' (first | (with_reducible exact Below.refl _ _) | (with_reducible assumption) | (with_reducible refine Below.setCell ?_ ?_ _) | (with_reducible refine Below.alloc ?_ ?_ _) | (with_reducible refine below_drewN ?_ _) | (with_reducible refine Below.drew ?_) | (with_reducible exact Nat.le_refl _) | omega | (simp; done) | (simp; omega)))
    · have HV : Hid (C = 0 ∧ rtL ls s = tnL (rtT s) ls) := by
        have e : inR 1000000 s = true := by rw [← hR.out, List.drop_eq_nil_of_le (by rw [← HTB.out.2]; omega)]; rfl
        have e2 : C = 0 := by rw [HC.out, if_pos e]
        exact ⟨e2, by rw [H.out.2.2.2.2.2.1, if_pos e2]⟩
      clear hR HC q0 q1 qf0 qf1 ql
      obtain ⟨w1, hw1⟩ : ∃ x, x = wr := ⟨_, rfl⟩
      subst hw1
      have hG := gfC_good HA0.out
      obtain ⟨wd, hwd⟩ : ∃ n, n = (ls.getD 0 []).length := ⟨_, rfl⟩
      have HG : Hid (GG 1000000 ls ∧ n = ls.length ∧ Sh n wd ls ∧ rtL ls s = tnL (rtT s) ls ∧ RdR w1 (.slice a n c) ls) := ⟨hG, H.out.2.1, by rw [H.out.2.1, hwd]; exact hG.sh, HV.out.2, H.out.1.below HB.out.2.1⟩
      have hn16 : n ≤ 16 := by rw [H.out.2.1]; exact hG.h1
      have hn0 : 0 < n := by rw [H.out.2.1]; exact hG.h0
      have hw16 : wd ≤ 16 := by rw [hwd]; exact hG.w1
      have hw0 : 0 < wd := by rw [hwd]; exact hG.w0
      have HCP : Hid (Calls Try.prog 36 #[.slice a n c] w1 fun e w' => ∃ v' vs, e = .returned v' ∧ RI w' w1.heap.size v' ls vs ∧ Below w1.heap.size w1 w') := spec_copy hG HG.out.2.2.2.2
      clear H hG hwd
      go_wp2_with (fail)
      refine HCP.out.mono ?_
      rintro e w2 ⟨v2, vs, rfl, hri, hb2⟩
      obtain ⟨g, oc, rfl, _, _, _⟩ := hri.pos (by rw [← HG.out.2.1]; exact hn0)
      rw [← HG.out.2.1] at hri ⊢
      have HS : Hid (GV w2 w1.heap.size g n oc wd ls vs ∧ Below w1.heap.size w1 w2) := ⟨⟨hri, HG.out.2.2.1, hw0⟩, hb2⟩
      clear hri hb2 HCP
      go_wp2
      go_loopw [8] (fun i wr => ∃ (k : Nat), k ≤ n ∧ i = .int .i64 k ∧ Hid (∃ L, GV wr w1.heap.size g n oc wd L vs ∧ (∀ j m, j < n → m < wd → at2 L j m = if j < k then rtT s (at2 ls j m) else at2 ls j m) ∧ Below w1.heap.size w1 wr)) (fun i _ => n - (intOf i).toNat)
      case atStart => exact ⟨0, Nat.zero_le _, rfl, ls, HS.out.1, fun j m _ _ => by rw [if_neg (by omega)], HS.out.2⟩
      case round =>
        clear HS
        obtain ⟨k, hk, rfl, hR⟩ := hrel
        by_cases hlt : k < n
        · have HR : Hid (∃ L, GV wr w1.heap.size g n oc wd L vs ∧ (∀ j m, j < n → m < wd → at2 L j m = if j < k ∨ (j = k ∧ m < 0) then rtT s (at2 ls j m) else at2 ls j m) ∧ Below w1.heap.size w1 wr) := by
            obtain ⟨L, hGV, hL, hbl⟩ := hR.out
            exact ⟨L, hGV, fun j m hj hm => by rw [hL j m hj hm]; by_cases e : j < k <;> simp [e], hbl⟩
          clear hR
          have b0 : (0 : Int) ≤ (k : Int) := by omega
          have b1 : (k : Int) < (n : Int) := by omega
          go_wp2
          go_loopw [9] (fun i wr => ∃ (q : Nat), q ≤ wd ∧ i = .int .i64 q ∧ Hid (∃ L, GV wr w1.heap.size g n oc wd L vs ∧ (∀ j m, j < n → m < wd → at2 L j m = if j < k ∨ (j = k ∧ m < q) then rtT s (at2 ls j m) else at2 ls j m) ∧ Below w1.heap.size w1 wr)) (fun i _ => wd - (intOf i).toNat)
          case atStart => exact ⟨0, Nat.zero_le _, rfl, HR.out⟩
          case round =>
            clear HR
            obtain ⟨q, hq, rfl, hR⟩ := hrel
            obtain ⟨L, hGV, hL, hbl⟩ := hR.out
            obtain ⟨gk, ck, hrk, c0, hgl, hgkl, hBk, hBg, hne, hcells⟩ := hGV.at hlt
            by_cases hlt2 : q < wd
            · obtain ⟨ag, ao, ra, rn, rc, rfl, hag, a0, hrn, hrd⟩ := (HG.out.2.2.2.2.below hbl).at hlt
              rw [HG.out.2.2.1.wd k hlt] at hrn
              subst hrn
              obtain ⟨rg, ro, rfl, hrg, r0⟩ := rd_at hrd hlt2
              obtain ⟨d0, d1⟩ := hcells q hlt2
              obtain ⟨x, hx⟩ : ∃ x, x = (ls.getD k []).getD q 0 := ⟨_, rfl⟩
              rw [← hx] at r0
              have HX : Hid (x = at2 ls k q) := hx
              have HS : Hid (rat vs k = .slice (some ⟨gk, 0, none⟩) rn ck ∧ GV wr w1.heap.size g n oc rn L vs ∧ (∀ j m, j < n → m < rn → at2 L j m = if j < k ∨ (j = k ∧ m < q) then rtT s (at2 ls j m) else at2 ls j m) ∧ Below w1.heap.size w1 wr) := ⟨hrk, hGV, hL, hbl⟩
              have hxb := HG.out.1.at k q
              rw [← hx] at hxb
              obtain ⟨mi, hmi⟩ : ∃ m, m = min x.toNat (tn - 1) := ⟨_, rfl⟩
              have hmt : mi < tn := by omega
              obtain ⟨tg, to, rfl, htg, t0⟩ := rd_at (HTB.out.1.below hbl) hmt
              obtain ⟨y, hy⟩ : ∃ y, y = s.getD mi 0 := ⟨_, rfl⟩
              rw [← hy] at t0
              have HY : Hid (y = rtT s (at2 ls k q)) := by unfold Hid rtT; rw [hy, hmi, ← HX.out, ← HTB.out.2]
              have HMI : Hid ((if x < (tn : Int) - 1 then x else (tn : Int) - 1) = (mi : Int)) := by
                unfold Hid
                split <;> omega
              have b4 : (0 : Int) ≤ (mi : Int) := by omega
              have b5 : (mi : Int) < (tn : Int) := by omega
              have hwr : IntKind.i64.wrap ((tn : Int) - 1) = (tn : Int) - 1 := by rw [IntKind.wrap_i64]; omega
              clear hrd hx hcells hR hrk hGV hL hbl hBk hBg hne hy hmi hxb
              have b2 : (0 : Int) ≤ (q : Int) := by omega
              have b3 : (q : Int) < (rn : Int) := by omega
              go_wp2_with (fail)
              refine wp_region_holdsA (S := fun w' => w'.cell? ⟨g, k, none⟩ = some (.slice (some ⟨gk, 0, none⟩) rn ck) ∧ w'.cell? ⟨ag, ao + k, none⟩ = some (.slice (some ⟨rg, ro, none⟩) rn rc) ∧ w'.cell? ⟨rg, ro + q, none⟩ = some (.int .i64 x)) (by kernel_rfl) ⟨c0, a0, r0⟩ (fun hS => ?_)
              refine fl_takeA (i := 0) (d := 54) (v := .slice (some ⟨g, 0, none⟩) n oc) rfl rfl rfl (by kernel_rfl) (by kernel_rfl) (by kernel_rfl) hS ?_ ?_
              · intro w' hk; obtain ⟨hk0, hk1, hk2⟩ := hk; go_simp
              simp only [Act.put, List.setIfInBounds_toArray, List.set_cons_zero, List.set_cons_succ]
              refine fl_takeA (i := 1) (d := 55) (v := .int .i64 k) rfl rfl rfl (by kernel_rfl) (by kernel_rfl) (by kernel_rfl) hS ?_ ?_
              · intro w' hk; obtain ⟨hk0, hk1, hk2⟩ := hk; go_simp
              simp only [Act.put, List.setIfInBounds_toArray, List.set_cons_zero, List.set_cons_succ]
              refine fl_takeA (i := 2) (d := 56) (v := .pointer (some ⟨g, k, none⟩)) rfl rfl rfl (by kernel_rfl) (by kernel_rfl) (by kernel_rfl) hS ?_ ?_
              · intro w' hk; obtain ⟨hk0, hk1, hk2⟩ := hk; go_simp
              simp only [Act.put, List.setIfInBounds_toArray, List.set_cons_zero, List.set_cons_succ]
              refine fl_takeA (i := 3) (d := 57) (v := .slice (some ⟨gk, 0, none⟩) rn ck) rfl rfl rfl (by kernel_rfl) (by kernel_rfl) (by kernel_rfl) hS ?_ ?_
              · intro w' hk; obtain ⟨hk0, hk1, hk2⟩ := hk; go_simp
              simp only [Act.put, List.setIfInBounds_toArray, List.set_cons_zero, List.set_cons_succ]
              refine fl_takeA (i := 4) (d := 58) (v := .int .i64 q) rfl rfl rfl (by kernel_rfl) (by kernel_rfl) (by kernel_rfl) hS ?_ ?_
              · intro w' hk; obtain ⟨hk0, hk1, hk2⟩ := hk; go_simp
              simp only [Act.put, List.setIfInBounds_toArray, List.set_cons_zero, List.set_cons_succ]
              refine fl_takeA (i := 5) (d := 59) (v := .slice (some ⟨tg, to, none⟩) tn tc) rfl rfl rfl (by kernel_rfl) (by kernel_rfl) (by kernel_rfl) hS ?_ ?_
              · intro w' hk; obtain ⟨hk0, hk1, hk2⟩ := hk; go_simp
              simp only [Act.put, List.setIfInBounds_toArray, List.set_cons_zero, List.set_cons_succ]
              refine fl_takeA (i := 6) (d := 60) (v := .slice (some ⟨ag, ao, none⟩) n c) rfl rfl rfl (by kernel_rfl) (by kernel_rfl) (by kernel_rfl) hS ?_ ?_
              · intro w' hk; obtain ⟨hk0, hk1, hk2⟩ := hk; go_simp
              simp only [Act.put, List.setIfInBounds_toArray, List.set_cons_zero, List.set_cons_succ]
              refine fl_takeA (i := 7) (d := 61) (v := .int .i64 k) rfl rfl rfl (by kernel_rfl) (by kernel_rfl) (by kernel_rfl) hS ?_ ?_
              · intro w' hk; obtain ⟨hk0, hk1, hk2⟩ := hk; go_simp
              simp only [Act.put, List.setIfInBounds_toArray, List.set_cons_zero, List.set_cons_succ]
              refine fl_takeA (i := 8) (d := 62) (v := .pointer (some ⟨ag, ao + k, none⟩)) rfl rfl rfl (by kernel_rfl) (by kernel_rfl) (by kernel_rfl) hS ?_ ?_
              · intro w' hk; obtain ⟨hk0, hk1, hk2⟩ := hk; go_simp
              simp only [Act.put, List.setIfInBounds_toArray, List.set_cons_zero, List.set_cons_succ]
              refine fl_takeA (i := 9) (d := 63) (v := .slice (some ⟨rg, ro, none⟩) rn rc) rfl rfl rfl (by kernel_rfl) (by kernel_rfl) (by kernel_rfl) hS ?_ ?_
              · intro w' hk; obtain ⟨hk0, hk1, hk2⟩ := hk; go_simp
              simp only [Act.put, List.setIfInBounds_toArray, List.set_cons_zero, List.set_cons_succ]
              refine fl_takeA (i := 10) (d := 64) (v := .int .i64 q) rfl rfl rfl (by kernel_rfl) (by kernel_rfl) (by kernel_rfl) hS ?_ ?_
              · intro w' hk; obtain ⟨hk0, hk1, hk2⟩ := hk; go_simp
              simp only [Act.put, List.setIfInBounds_toArray, List.set_cons_zero, List.set_cons_succ]
              refine fl_takeA (i := 11) (d := 65) (v := .pointer (some ⟨rg, ro + q, none⟩)) rfl rfl rfl (by kernel_rfl) (by kernel_rfl) (by kernel_rfl) hS ?_ ?_
              · intro w' hk; obtain ⟨hk0, hk1, hk2⟩ := hk; go_simp
              simp only [Act.put, List.setIfInBounds_toArray, List.set_cons_zero, List.set_cons_succ]
              refine fl_takeA (i := 12) (d := 66) (v := .int .i64 x) rfl rfl rfl (by kernel_rfl) (by kernel_rfl) (by kernel_rfl) hS ?_ ?_
              · intro w' hk; obtain ⟨hk0, hk1, hk2⟩ := hk; go_simp
              simp only [Act.put, List.setIfInBounds_toArray, List.set_cons_zero, List.set_cons_succ]
              refine fl_takeA (i := 13) (d := 67) (v := .slice (some ⟨tg, to, none⟩) tn tc) rfl rfl rfl (by kernel_rfl) (by kernel_rfl) (by kernel_rfl) hS ?_ ?_
              · intro w' hk; obtain ⟨hk0, hk1, hk2⟩ := hk; go_simp
              simp only [Act.put, List.setIfInBounds_toArray, List.set_cons_zero, List.set_cons_succ]
              refine fl_takeA (i := 14) (d := 68) (v := .int .i64 tn) rfl rfl rfl (by kernel_rfl) (by kernel_rfl) (by kernel_rfl) hS ?_ ?_
              · intro w' hk; obtain ⟨hk0, hk1, hk2⟩ := hk; go_simp
              simp only [Act.put, List.setIfInBounds_toArray, List.set_cons_zero, List.set_cons_succ]
              refine fl_takeA (i := 15) (d := 69) (v := .int .i64 ((tn : Int) - 1)) rfl rfl rfl (by kernel_rfl) (by kernel_rfl) (by kernel_rfl) hS ?_ ?_
              · intro w' hk; obtain ⟨hk0, hk1, hk2⟩ := hk; go_simp
              simp only [Act.put, List.setIfInBounds_toArray, List.set_cons_zero, List.set_cons_succ]
              refine wpAnyH_all (rs := [16]) (by kernel_rfl) (by simp) ?_
              intro i hi; obtain rfl := List.mem_singleton.1 hi; clear hi
              refine op_call (d := 70) rfl rfl rfl (by go_simp) ((HO.out x ((tn : Int) - 1) _).mono ?_)
              rintro e w5 ⟨rfl, rfl⟩
              rw [HMI.out]
              refine ⟨_, rfl, hS, ?_⟩
              simp only [Act.put, List.setIfInBounds_toArray, List.set_cons_zero, List.set_cons_succ]
              refine wpAnyH_all (rs := [17]) (by kernel_rfl) (by simp) ?_
              intro i hi; obtain rfl := List.mem_singleton.1 hi; clear hi
              refine op_val (d := 71) (v := .pointer (some ⟨tg, to + mi, none⟩)) (w' := wr.drew) rfl rfl rfl (by go_simp; try rfl) ?_
              simp only [Act.put, List.setIfInBounds_toArray, List.set_cons_zero, List.set_cons_succ]
              refine ⟨hS, wpAnyH_all (rs := [18]) (by kernel_rfl) (by simp) ?_⟩
              intro i hi; obtain rfl := List.mem_singleton.1 hi; clear hi
              have t0' : wr.drew.cell? ⟨tg, to + mi, none⟩ = some (.int .i64 y) := t0
              refine op_val (d := 72) (v := .int .i64 y) (w' := wr.drew) rfl rfl rfl (by go_simp; try rfl) ?_
              simp only [Act.put, List.setIfInBounds_toArray, List.set_cons_zero, List.set_cons_succ]
              refine ⟨hS, wpAnyH_all (rs := [19]) (by kernel_rfl) (by simp) ?_⟩
              intro i hi; obtain rfl := List.mem_singleton.1 hi; clear hi
              refine op_val (d := 73) (v := .pointer (some ⟨gk, q, none⟩)) (w' := wr.drew) rfl rfl rfl (by go_simp; try rfl) ?_
              simp only [Act.put, List.setIfInBounds_toArray, List.set_cons_zero, List.set_cons_succ]
              refine ⟨hS, wpAnyH_all (rs := [20]) (by kernel_rfl) (by simp) ?_⟩
              intro i hi; obtain rfl := List.mem_singleton.1 hi; clear hi
              have d0' : wr.drew.cell? ⟨gk, q, none⟩ = some (.int .i64 (at2 L k q)) := d0
              have d1' : wr.drew.frozen? ⟨gk, q, none⟩ = false := d1
              have hgkl' : gk < wr.drew.heap.size := hgkl
              refine op_skipN rfl rfl (w' := wr.drew.setCell ⟨gk, q, none⟩ (.int .i64 y)) (by go_simp; try rfl) ?_
              have HD : Hid (GV wr.drew w1.heap.size g n oc rn L vs ∧ Below w1.heap.size w1 wr.drew) := ⟨HS.out.2.1.below (Below.refl _ _).drew, HS.out.2.2.2.drew⟩
              have HP : Hid (∃ L, GV (wr.drew.setCell ⟨gk, q, none⟩ (.int .i64 y)) w1.heap.size g n oc rn L vs ∧ (∀ j m, j < n → m < rn → at2 L j m = if j < k ∨ (j = k ∧ m < q + 1) then rtT s (at2 ls j m) else at2 ls j m) ∧ Below w1.heap.size w1 (wr.drew.setCell ⟨gk, q, none⟩ (.int .i64 y))) := by
                refine ⟨set2 L k q y, HD.out.1.set hlt HS.out.1 q y, fun j m hj hm => ?_, HD.out.1.bel hlt HS.out.1 q y HD.out.2⟩
                rw [at2_set2 HD.out.1.sh hlt hlt2]
                by_cases e : j = k ∧ m = q
                · rw [if_pos e, if_pos (by omega), HY.out, e.1, e.2]
                · rw [if_neg e, HS.out.2.2.1 j m hj hm]
                  by_cases e2 : j < k ∨ (j = k ∧ m < q)
                  · rw [if_pos e2, if_pos (by omega)]
                  · rw [if_neg e2, if_neg (by omega)]
              obtain ⟨g5, c5, hr5, e0, e1, e2, e3, e4, e5, hc5⟩ := (HD.out.1.set hlt HS.out.1 q y).at hlt
              rw [HS.out.1] at hr5
              injection hr5 with t1 t2 t3
              injection t1 with t4
              injection t4 with t5
              subst t5 t3
              have a5 : (wr.drew.setCell ⟨gk, q, none⟩ (.int .i64 y)).cell? ⟨ag, ao + k, none⟩ = some (.slice (some ⟨rg, ro, none⟩) rn rc) := by
                have hb5 : Below w1.heap.size w1 (wr.drew.setCell ⟨gk, q, none⟩ (.int .i64 y)) := HD.out.1.bel hlt HS.out.1 q y HD.out.2
                obtain ⟨ag', ao', ra', rn', rc', f1, f2, f3, _⟩ := (HG.out.2.2.2.2).at hlt
                injection f1 with f1
                injection f1 with f4 f5
                subst f4 f5
                have g0 := (hb5.cell (p := ⟨ag, ao + k, none⟩) f2)
                have g1 := (HS.out.2.2.2.cell (p := ⟨ag, ao + k, none⟩) f2)
                rw [g0, ← g1]; exact a0
              have r5 : (wr.drew.setCell ⟨gk, q, none⟩ (.int .i64 y)).cell? ⟨rg, ro + q, none⟩ = some (.int .i64 x) := by
                obtain ⟨ag', ao', ra', rn', rc', f1, f2, f3, f6, f7⟩ := (HG.out.2.2.2.2).at hlt
                injection f1 with f1
                injection f1 with f4 f5
                subst f4 f5
                have g1 := (HS.out.2.2.2.cell (p := ⟨ag, ao + k, none⟩) f2)
                rw [f3, a0] at g1
                injection g1 with g1
                injection g1 with g2 g3 g4
                subst g2
                rw [HG.out.2.2.1.wd k hlt] at f6
                obtain ⟨rg', ro', h1, h2, h3⟩ := rd_at f7 (show q < rn' by omega)
                injection h1 with h1
                injection h1 with h4 h5
                subst h4 h5
                have hb5 : Below w1.heap.size w1 (wr.drew.setCell ⟨gk, q, none⟩ (.int .i64 y)) := HD.out.1.bel hlt HS.out.1 q y HD.out.2
                rw [hb5.cell (p := ⟨rg, ro + q, none⟩) h2, h3, HX.out]; rfl
              refine ⟨⟨e0, a5, r5⟩, wpAnyH_done (by kernel_rfl) (NoPanic.normal ?_) _⟩
              generalize wr.drew.setCell ⟨gk, q, none⟩ (.int .i64 y) = V' at HP ⊢
              clear a0 r0 c0 d0 d1 d0' d1' hgkl hgkl' hgl hag hrg HS HD HX HY hS t0 t0' htg HMI e0 e1 e2 e3 e4 e5 hc5 a5 r5 t2
              go_wp2
              go_roundw
              case rel => exact ⟨q + 1, by omega, by go_num, HP.out⟩
              case measure => simp [intOf]; omega
            · have HP : Hid (∃ L, GV wr w1.heap.size g n oc wd L vs ∧ (∀ j m, j < n → m < wd → at2 L j m = if j < k + 1 then rtT s (at2 ls j m) else at2 ls j m) ∧ Below w1.heap.size w1 wr) := by
                refine ⟨L, hGV, fun j m hj hm => ?_, hbl⟩
                rw [hL j m hj hm]
                by_cases e : j < k + 1
                · rw [if_pos (by omega), if_pos e]
                · rw [if_neg (by omega), if_neg e]
              clear hR hGV hL hbl hrk hBk hBg hne hcells
              go_wp2
              go_roundw
              case rel => exact ⟨k + 1, by omega, by go_num, HP.out⟩
              case measure => simp [intOf]; omega
        · have HP : Hid (RI wr w1.heap.size (.slice (some ⟨g, 0, none⟩) n oc) (tnL (rtT s) ls) vs ∧ Below w.heap.size w wr ∧ wr.heap[w.heap.size]? = some (.cells #[.int .i64 0, .slice none 0 0] 33) ∧ w.heap.size < w1.heap.size) := by
            obtain ⟨L, h1, h2, h3⟩ := hR.out
            refine ⟨?_, HB.out.2.1.trans (h3.mono HB.out.2.1.size), (h3.block _ HB.out.2.2).trans HB.out.1, HB.out.2.2⟩
            have e : L = tnL (rtT s) ls := grid_ext h1.sh (tnL_sh HG.out.2.2.1) fun j m hj hm => by
              rw [h2 j m hj hm, if_pos (by omega), tnL_at HG.out.2.2.1 hj hm]
            rw [← e]
            exact h1.ri
          obtain ⟨q0, q1, qf0, qf1, ql⟩ := two_of HP.out.2.2.1
          clear hR
          go_wp2
          try simp only [Exit.inBlock, Exit.then]
          refine bodyPost_ret (by simp [results, Try.results23, go_sem, q0, q1, ql]; try rfl) rfl ⟨.slice (some ⟨g, 0, none⟩) n oc, vs, by rw [HV.out.1], ?_, ?_⟩
          · rw [HG.out.2.2.2.1]
            have hs := HP.out.2.2.2
            refine RI.low (B := w1.heap.size) ?_ (by omega)
            repeat' (refine ri_result (w := w) ?_ (by omega) _ _)
            exact HP.out.1
          · have hB := HP.out.2.1
            (repeat' (first | (with_reducible exact Below.refl _ _) | (with_reducible assumption) | (with_reducible refine Below.setCell ?_ ?_ _) | (with_reducible refine Below.alloc ?_ ?_ _) | (with_reducible refine below_drewN ?_ _) | (with_reducible refine Below.drew ?_) | (with_reducible exact Nat.le_refl _) | omega | (simp; done) | (simp; omega)))

end Go.Proofs.Yteoddodeppgjaaa
