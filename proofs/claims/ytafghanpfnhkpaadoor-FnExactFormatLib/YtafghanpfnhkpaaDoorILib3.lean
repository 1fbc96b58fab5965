/- Proved here: LibFault of the program: libK. -/
import Derived.Test.YtafghanpfnhkpaaDoorILib2
namespace Go.Proofs.YtafghanpfnhkpaaDoor
open Go.RowKit Go.WideMaps Go.Maps
set_option linter.unusedVariables false
set_option linter.unusedSimpArgs false

theorem ahC_ahB (s : List Cl) (k : Nat) : ahC (fun q => (aheadN s k q : Int)) = ahB s k := by
  funext q
  unfold ahC ahB
  simp

set_option maxRecDepth 10000 in
set_option maxHeartbeats 6400000 in
theorem impl_lib (a : Option Addr) (m c : Nat) (s : List Cl) (w : World) (hm : m ≤ 2000000) (h : RK w (.slice a m c) s) (hsm : ∀ j (h : j < s.length), smC 1048576 s[j]) :
    Calls Tryd.prog 14 #[.slice a m c] w fun e w' => e = .returned (.int .i64 (libK s)) ∧ Below w.heap.size w w' := by
  obtain ⟨rs, hrs, hrel⟩ := h
  have hmr : m = rs.length := hrs.len
  have hms : m = s.length := hmr.trans hrel.len
  have H : Hid (RG 3 rcC w (.slice a m c) rs ∧ RelK w rs s ∧ m = rs.length ∧ m = s.length ∧ ∀ j (h : j < s.length), smC 1048576 s[j]) := ⟨hrs, hrel, hmr, hms, hsm⟩
  obtain ⟨K, hK⟩ : ∃ K, K = libK s := ⟨_, rfl⟩
  rw [← hK]
  have hmk := nk_make
  by_cases h20 : (20 : Int) < (m : Int)
  · have HK : Hid (K = 2) := by unfold Hid; rw [hK]; unfold libK; rw [if_pos (by omega)]
    clear hrs hrel hsm hms hmr hK
    go_enter Tryd.func14, Tryd.ntmps14
    go_wp2
    go_returns
    exact ⟨by rw [HK.out]; rfl, Below.refl _ _⟩
  · have HK : Hid (K = libR s 0 s.length) := by unfold Hid; rw [hK]; unfold libK; rw [if_neg (by omega)]
    clear hrs hrel hsm hms hmr hK
    go_enter Tryd.func14, Tryd.ntmps14
    go_wp2
    clear hmk
    go_loopw [15] (fun i wr => ∃ k : Nat, i = .int .i64 k ∧ k ≤ m ∧ Hid (libR s k (s.length - k) = K ∧ Below w.heap.size w wr ∧ MN wr w.heap.size k (fun q => (aheadN s k q : Int)))) (fun i _ => m - (intOf i).toNat)
    case atStart =>
      refine ⟨0, rfl, Nat.zero_le _, HK.out.symm, (Below.refl _ _).alloc (Nat.le_refl _) _, ?_⟩
      have e : (fun q => (aheadN s 0 q : Int)) = fun _ => 0 := by funext q; rw [aheadN_zero]; rfl
      rw [e]
      exact MN.made w
    case round =>
      obtain ⟨k, rfl, hk, hR⟩ := hrel
      by_cases hlt : k < m
      · have hks : k < s.length := by rw [← H.out.2.2.2.1]; exact hlt
        have hkr : k < rs.length := by rw [← H.out.2.2.1]; exact hlt
        obtain ⟨g, o, c2, he, hg, hj⟩ := (H.out.1.below hR.out.2.1).pos (by omega)
        simp only [Value.slice.injEq] at he
        obtain ⟨rfl, hx1, hx2⟩ := he
        obtain ⟨c0, c1, c2⟩ := rcC_at (hj k hkr)
        obtain ⟨r, hr⟩ : ∃ r, r = rs[k] := ⟨_, rfl⟩
        rw [← hr] at c0 c1 c2
        have hr1 : Rc1 wr r s[k] := by rw [hr]; exact (H.out.2.1.below hR.out.2.1).at_ k hkr hks
        clear hx1 hx2 hj hr
        obtain ⟨t, ht⟩ : ∃ t, t = clK (ahB s k) s[k] := ⟨_, rfl⟩
        have HC : Hid (∀ W, Below wr.heap.size wr W → Calls Tryd.prog 25 #[.agg #[.string r.nm, .slice r.ba r.bn r.bc, .slice r.pa r.pn r.pc], .map (some w.heap.size)] W fun e w' => e = .returned (.int .i64 t) ∧ Below W.heap.size W w') := fun W hW => by
          have := impl_cellf r s[k] w.heap.size k (fun q => (aheadN s k q : Int)) W (fun q => by omega) (H.out.2.2.2.2 k hks) (hr1.below hW) (hR.out.2.2.below hW)
          rw [ahC_ahB, ← ht] at this
          exact this
        have HT : Hid (t = clK (ahB s k) s[k] ∧ r.nm = s[k].nm ∧ r.nm.size ≤ maxLen) := ⟨ht, hr1.nm, by rw [hr1.nm]; have := (H.out.2.2.2.2 k hks).nm; unfold maxLen; omega⟩
        have HKS : Hid (k < s.length) := hks
        clear ht hr1
        have d0 : (0 : Int) ≤ (k : Int) := by omega
        have d1 : (k : Int) < (m : Int) := by omega
        go_wp2_with (fail)
        refine (HC.out _ (by (repeat' (first | (with_reducible exact Below.refl _ _) | (with_reducible assumption) | (with_reducible refine Below.setCell ?_ ?_ _) | (with_reducible refine Below.alloc ?_ ?_ _) | (with_reducible refine below_drewN ?_ _) | (with_reducible refine Below.drew ?_) | (with_reducible exact Nat.le_refl _) | omega | (simp; done) | (simp; omega))))).mono ?_
        rintro e w2 ⟨rfl, hb2⟩
        have hk5 := (hb2.block wr.heap.size (by simp)).trans (heap_alloc_new wr _)
        have hbW : Below wr.heap.size wr w2 := Below.trans (by (repeat' (first | (with_reducible exact Below.refl _ _) | (with_reducible assumption) | (with_reducible refine Below.setCell ?_ ?_ _) | (with_reducible refine Below.alloc ?_ ?_ _) | (with_reducible refine below_drewN ?_ _) | (with_reducible refine Below.drew ?_) | (with_reducible exact Nat.le_refl _) | omega | (simp; done) | (simp; omega)))) (hb2.mono (by simp))
        have HB : Hid (Below w.heap.size w w2) := hR.out.2.1.trans (hbW.mono hR.out.2.1.size)
        have hM2 := hR.out.2.2.below hbW
        obtain ⟨p0, p1, p2, plt⟩ := three_at hk5
        clear hb2 HC hk5 hbW c0 c1 c2
        by_cases ht0 : t = 0
        · have HN : Hid (libR s (k + 1) (s.length - (k + 1)) = K) := by
            unfold Hid
            rw [← libR_miss HKS.out rfl (by rw [← HT.out.1]; exact ht0)]
            exact hR.out.1
          have hlook := hM2.look HT.out.2.2
          obtain ⟨q, hq⟩ : ∃ q, q = (aheadN s k r.nm : Int) := ⟨_, rfl⟩
          rw [← hq] at hlook
          have hq0 : 0 ≤ q := by omega
          have hq1 : q ≤ 20 := by have := aheadN_le s k r.nm; omega
          have hkey := keyOf_string_mk (P := Tryd.prog) Tryd.underlying9 HT.out.2.2
          obtain ⟨D, hD, hat⟩ := hM2.own
          have HM2 : Hid (MN w2 w.heap.size k (fun q => (aheadN s k q : Int)) ∧ w2.ownsMap Tryd.prog 9 (plainElem Tryd.prog 2) w.heap.size k D ∧ (∀ s' : ByteArray, s'.size ≤ maxLen → D.atKey (.string s'.data.toList) (.lit (.int .i64 0)) = .lit (.int .i64 (aheadN s k s' : Int))) ∧ q = (aheadN s k r.nm : Int)) := ⟨hM2, hD, hat, hq⟩
          have hwf : (Lit.int .i64 (q + 1)).wf = true := by
            simp [Lit.wf, IntKind.min, IntKind.max, IntKind.signed, IntKind.bits]
            omega
          subst ht0
          clear hR hM2 hat hq
          go_wp2_with (at_mapUpdate; refine wpList_mapUpdate_own _ rfl _ _ _ 64 rfl 9 2 nk_law Tryd.underlying64 _ w.heap.size k _ rfl hD (by unfold maxLen; omega) _ _ _ rfl rfl hkey _ [] (plainElem_int Tryd.underlying2 hwf) ?_; intro w3 hown3 hgrow3)
          have R : Hid (Below w.heap.size w w3 ∧ MN w3 w.heap.size (k + 1) (fun q => (aheadN s (k + 1) q : Int))) := by
            refine ⟨HB.out.grown hgrow3 HB.out.size (fun j hj => by cases hj; exact Nat.le_refl _), ?_⟩
            have h1 := HM2.out.1.put HT.out.2.2 HM2.out.2.1 HM2.out.2.2.1 hown3
            have e : (fun p => if r.nm = p then q + 1 else (aheadN s k p : Int)) = fun p => (aheadN s (k + 1) p : Int) := by
              funext p
              rw [aheadN_succ HKS.out, ← HT.out.2.1]
              by_cases hp : r.nm = p
              · subst hp; rw [if_pos rfl, if_pos rfl, HM2.out.2.2.2]; omega
              · rw [if_neg hp, if_neg hp]; omega
            rw [e] at h1
            exact h1
          clear hown3 hgrow3 hD hlook hkey
          go_wp2
          go_roundw
          case rel => exact ⟨k + 1, by go_num, by omega, HN.out, R.out.1, R.out.2⟩
          case measure => simp [intOf]; omega
        · have HN : Hid (K = t) := by
            unfold Hid
            exact hR.out.1.symm.trans ((libR_hit HKS.out rfl (by rw [← HT.out.1]; exact ht0)).trans HT.out.1.symm)
          clear hR hM2
          go_wp2
          go_returns
          exact ⟨by rw [HN.out]; rfl, HB.out⟩
      · have HN : Hid (K = 0 ∧ Below w.heap.size w wr) := ⟨by rw [← hR.out.1]; exact libR_end (by rw [← H.out.2.2.2.1]; omega), hR.out.2.1⟩
        clear hR
        go_wp2
        go_returns
        exact ⟨by rw [HN.out.1]; rfl, HN.out.2⟩

end Go.Proofs.YtafghanpfnhkpaaDoor
