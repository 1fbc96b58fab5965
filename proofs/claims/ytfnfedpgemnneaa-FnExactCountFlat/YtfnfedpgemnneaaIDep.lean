/- Proved here: depthsOf of the program: the map of vmap dpG. -/
import Derived.Test.YtfnfedpgemnneaaVMap
import Derived.Test.YtfnfedpgemnneaaMapH
import Derived.Test.YtfnfedpgemnneaaILib3
namespace Go.Proofs.Ytfnfedpgemnneaa
open Go.RowKit Go.WideMaps Go.Maps
set_option linter.unusedVariables false
set_option linter.unusedSimpArgs false

theorem ahB_step {s : List Cl} {k : Nat} (h : k < s.length) : (fun q => if s[k].nm = q then true else ahB s k q) = ahB s (k + 1) := by
  funext q
  unfold ahB
  rw [aheadN_succ h]
  by_cases e : s[k].nm = q
  · rw [if_pos e, if_pos e]; simp
  · rw [if_neg e, if_neg e]; simp
theorem ahB_zero (s : List Cl) : ahB s 0 = fun _ => false := by
  funext q; unfold ahB; rw [aheadN_zero]; rfl
theorem vmap_zero (G : (ByteArray → Int) → Cl → Int) (s : List Cl) : vmap G s 0 = fun _ => 0 := by
  funext q; rfl

set_option maxRecDepth 10000 in
set_option maxHeartbeats 6400000 in
theorem impl_depths (a : Option Addr) (m c : Nat) (s : List Cl) (w : World) (ho : OkL s) (h : RK w (.slice a m c) s) (hsm : ∀ j (h : j < s.length), smC 1048576 s[j]) :
    Calls Try.prog 47 #[.slice a m c] w fun e w' => ∃ b n, e = .returned (.map (some b)) ∧ MH w' b n (vmap dpG s s.length) (ahB s s.length) ∧ Below w.heap.size w w' := by
  obtain ⟨rs, hrs, hrel⟩ := h
  have hmr : m = rs.length := hrs.len
  have hms : m = s.length := hmr.trans hrel.len
  have hm20 : m ≤ 20 := by rw [hms]; exact ho.len
  have H : Hid (RG 3 rcC w (.slice a m c) rs ∧ RelK w rs s ∧ m = rs.length ∧ m = s.length ∧ OkL s ∧ ∀ j (h : j < s.length), smC 1048576 s[j]) := ⟨hrs, hrel, hmr, hms, ho, hsm⟩
  have hmk := nk_make
  clear hrs hrel hmr hms ho hsm
  go_enter Try.func47, Try.ntmps47
  go_wp2
  clear hmk
  go_loopw [14] (fun i wr => ∃ k : Nat, i = .int .i64 k ∧ k ≤ m ∧ Hid (Below w.heap.size w wr ∧ MH wr w.heap.size k (vmap dpG s k) (ahB s k))) (fun i _ => m - (intOf i).toNat)
  case atStart =>
    refine ⟨0, rfl, Nat.zero_le _, (Below.refl _ _).alloc (Nat.le_refl _) _, ?_⟩
    rw [ahB_zero, vmap_zero]
    exact MH.made w
  case round =>
    obtain ⟨k, rfl, hk, hR⟩ := hrel
    by_cases hlt : k < m
    · have hks : k < s.length := by rw [← H.out.2.2.2.1]; exact hlt
      have hkr : k < rs.length := by rw [← H.out.2.2.1]; exact hlt
      obtain ⟨g, o, c2, he, hg, hj⟩ := (H.out.1.below hR.out.1).pos (by omega)
      simp only [Value.slice.injEq] at he
      obtain ⟨rfl, hx1, hx2⟩ := he
      obtain ⟨c0, c1, c2⟩ := rcC_at (hj k hkr)
      obtain ⟨r, hr⟩ : ∃ r, r = rs[k] := ⟨_, rfl⟩
      rw [← hr] at c0 c1 c2
      have hr1 : Rc1 wr r s[k] := by rw [hr]; exact (H.out.2.1.below hR.out.1).at_ k hkr hks
      obtain ⟨x, hx⟩ : ∃ x, x = s[k] := ⟨_, rfl⟩
      rw [← hx] at hr1
      have hsx : smC 1048576 x := by rw [hx]; exact H.out.2.2.2.2.2 k hks
      have hpn : r.pn = x.ps.length := hr1.ps.len
      have hpn20 : r.pn ≤ 20 := by rw [hpn, hx]; exact H.out.2.2.2.2.1.ps k hks
      obtain ⟨nm, ba, bn, bc, pa, pn, pc⟩ := r
      have hps : RG 9 plC wr (.slice pa pn pc) x.ps := hr1.ps
      have hnm : nm = x.nm := hr1.nm
      have HX : Hid (k < s.length ∧ x = s[k] ∧ RG 9 plC wr (.slice pa pn pc) x.ps ∧ pn = x.ps.length ∧ nm = x.nm ∧ smC 1048576 x) := ⟨hks, hx, hps, hpn, hnm, hsx⟩
      have hpn20' : pn ≤ 20 := hpn20
      clear hx1 hx2 hj hr hr1 hx hpn hps hpn20 hnm hsx
      simp only at c0 c1 c2
      have d0 : (0 : Int) ≤ (k : Int) := by omega
      have d1 : (k : Int) < (m : Int) := by omega
      have HV : Hid (∀ q, 0 ≤ vmap dpG s k q ∧ vmap dpG s k q ≤ 20) := fun q => by have := dp_bound s k q; omega
      obtain ⟨wq, hwq⟩ : ∃ wq, wq = wr := ⟨_, rfl⟩
      rw [← hwq] at hR HX hg c0 c1 c2 ⊢
      clear hwq
      have hwsz := hR.out.1.size
      go_wp2
      go_loopw [6, 21] (fun q i w2 => ∃ (t : Nat) (z : Int), i = .int .i64 t ∧ t ≤ pn ∧ q = .int .i64 z ∧ 0 ≤ z ∧ z ≤ 20 ∧ Hid (z = dpF (vmap dpG s k) (x.ps.take t) ∧ Below (wq.heap.size + 1) (wq.alloc (.cells #[.string nm, .slice ba bn bc, .slice pa pn pc] 53)) w2)) (fun _ i _ => pn - (intOf i).toNat)
      case atStart => exact ⟨0, 0, rfl, Nat.zero_le _, rfl, by omega, by omega, by simp [dpF], by (repeat' (first | (with_reducible exact Below.refl _ _) | (with_reducible assumption) | (with_reducible refine Below.setCell ?_ ?_ _) | (with_reducible refine Below.alloc ?_ ?_ _) | (with_reducible refine below_drewN ?_ _) | (with_reducible refine Below.drew ?_) | (with_reducible exact Nat.le_refl _) | omega | (simp; done) | (simp; omega)))⟩
      case round =>
        obtain ⟨t, z, rfl, ht, rfl, hz1', hz2', hT⟩ := hrel
        obtain ⟨w2, hw2⟩ : ∃ w2, w2 = wr := ⟨_, rfl⟩
        rw [← hw2] at hT ⊢
        clear hw2
        have hb2 : Below wq.heap.size wq w2 := Below.trans ((Below.refl _ _).alloc (Nat.le_refl _) _) (hT.out.2.mono (by omega))
        have hk5 := (hT.out.2.block wq.heap.size (by omega)).trans (heap_alloc_new wq _)
        have hM2 := hR.out.2.below hb2
        have hwsz2 := hb2.size
        by_cases hltt : t < pn
        · have htx : t < x.ps.length := by rw [← HX.out.2.2.2.1]; exact hltt
          obtain ⟨bg, bo, bc2, hbe, hbg, hbj⟩ := (HX.out.2.2.1.below hb2).pos (by omega)
          simp only [Value.slice.injEq] at hbe
          obtain ⟨rfl, hx1, hx2⟩ := hbe
          obtain ⟨e0, e1, e2, e3, e4, e5, e6, e7, e8⟩ := plC_at (hbj t htx)
          obtain ⟨y, hy⟩ : ∃ y, y = x.ps[t] := ⟨_, rfl⟩
          rw [← hy] at e0 e1 e2 e3 e4 e5 e6 e7 e8
          have hyn : y.c.size ≤ maxLen := by
            rw [hy]; have := HX.out.2.2.2.2.2.pl t htx; unfold smP at this; unfold maxLen; omega
          have HY : Hid (t < x.ps.length ∧ y = x.ps[t]) := ⟨htx, hy⟩
          have hlook := fun ob => (hM2.below ((Below.refl _ _).alloc (Nat.le_refl _) ob)).mn.look hyn
          obtain ⟨u, hu⟩ : ∃ u, u = vmap dpG s k y.c := ⟨_, rfl⟩
          rw [← hu] at hlook
          have hub := HV.out y.c
          rw [← hu] at hub
          have HU : Hid (u = vmap dpG s k y.c) := hu
          have f0 : (0 : Int) ≤ (t : Int) := by omega
          have f1 : (t : Int) < (pn : Int) := by omega
          have HT : Hid _ := hT.out
          clear hx1 hx2 hbj hy hu hT hk5 hM2 hyn
          go_wp2
          go_roundw
          case rel =>
            refine ⟨t + 1, if u > z then u else z, by go_num, by omega, rfl, by split <;> omega, by split <;> omega, ?_, ?_⟩
            · rw [dpF_step HY.out.1, ← HY.out.2, ← HU.out, ← HT.out.1]
            · have hb := HT.out.2
              have hbs := hb.size
              simp only [World.size_alloc] at hbs
              (repeat' (first | (with_reducible exact Below.refl _ _) | (with_reducible assumption) | (with_reducible refine Below.setCell ?_ ?_ _) | (with_reducible refine Below.alloc ?_ ?_ _) | (with_reducible refine below_drewN ?_ _) | (with_reducible refine Below.drew ?_) | (with_reducible exact Nat.le_refl _) | omega | (simp; done) | (simp; omega)))
          case measure => simp [intOf]; omega
        · have HF : Hid (z = dpF (vmap dpG s k) x.ps) := by
            unfold Hid
            rw [hT.out.1, List.take_of_length_le (by rw [← HX.out.2.2.2.1]; omega)]
          have hnl : nm.size ≤ maxLen := by rw [HX.out.2.2.2.2.1]; have := HX.out.2.2.2.2.2.nm; unfold maxLen; omega
          have hkey := keyOf_string_mk (P := Try.prog) Try.underlying9 hnl
          obtain ⟨p0, p1, p2, plt⟩ := three_at hk5
          obtain ⟨D, hD, hat, hha⟩ := hM2.own
          have HM : Hid (w2.ownsMap Try.prog 9 (plainElem Try.prog 2) w.heap.size k D ∧ (∀ s' : ByteArray, s'.size ≤ maxLen → D.atKey (.string s'.data.toList) (.lit (.int .i64 0)) = .lit (.int .i64 (vmap dpG s k s'))) ∧ (∀ s' : ByteArray, Maps.has D (.string s'.data.toList) = ahB s k s') ∧ Below w.heap.size w w2) := ⟨hD, hat, hha, hR.out.1.trans (hb2.mono hwsz)⟩
          have hwf : (Lit.int .i64 (1 + z)).wf = true := by
            simp [Lit.wf, IntKind.min, IntKind.max, IntKind.signed, IntKind.bits]
            omega
          clear hT hR hM2 hk5 hat hha hnl hb2
          go_wp2_with (at_mapUpdate; refine wpList_mapUpdate_own _ rfl _ _ _ 56 rfl 9 2 nk_law Try.underlying56 _ w.heap.size k _ rfl hD (by unfold maxLen; omega) _ _ _ rfl rfl hkey _ [] (plainElem_int Try.underlying2 hwf) ?_; intro w3 hown3 hgrow3)
          have R : Hid (Below w.heap.size w w3 ∧ MH w3 w.heap.size (k + 1) (vmap dpG s (k + 1)) (ahB s (k + 1))) := by
            refine ⟨HM.out.2.2.2.grown hgrow3 HM.out.2.2.2.size (fun j hj => by cases hj; exact Nat.le_refl _), ?_⟩
            have h1 := MH.put HM.out.1 HM.out.2.1 HM.out.2.2.1 hown3
            rw [vmap_succ HX.out.1, ← ahB_step HX.out.1, ← HX.out.2.1, ← HX.out.2.2.2.2.1]
            have e : dpG (vmap dpG s k) x = 1 + z := by rw [HF.out]; rfl
            rw [e]
            exact h1
          clear hown3 hgrow3 hD hkey
          go_wp2
          go_roundw
          case rel => exact ⟨k + 1, by go_num, by omega, R.out.1, R.out.2⟩
          case measure => simp [intOf]; omega
    · have HD : Hid (MH wr w.heap.size k (vmap dpG s s.length) (ahB s s.length) ∧ Below w.heap.size w wr) := by
        have e : k = s.length := by rw [← H.out.2.2.2.1]; omega
        have h1 := hR.out.2
        rw [show vmap dpG s k = vmap dpG s s.length by rw [e], show ahB s k = ahB s s.length by rw [e]] at h1
        exact ⟨h1, hR.out.1⟩
      clear hR
      go_wp2
      go_returns
      exact ⟨_, _, rfl, HD.out.1, HD.out.2⟩

end Go.Proofs.Ytfnfedpgemnneaa
