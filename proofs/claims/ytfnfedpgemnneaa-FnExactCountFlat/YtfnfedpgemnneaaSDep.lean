/- Proved here: l3Depths and DepthOf of the model. -/
import Derived.Test.YtfnfedpgemnneaaVMap
import Derived.Test.YtfnfedpgemnneaaSLib2
import Derived.Deep.AppendLies
namespace Go.Proofs.Ytfnfedpgemnneaa
open Go.RowKit
set_option linter.unusedVariables false
set_option linter.unusedSimpArgs false

set_option maxHeartbeats 400000 in
theorem spec_mx (a b : Int) (w : World) : Calls Try.prog 63 #[.int .i64 a, .int .i64 b] w fun e w' => e = .returned (.int .i64 (if a < b then b else a)) ∧ w' = w := by
  rcases (by omega : a < b ∨ b < a ∨ a = b) with h | h | rfl
  · rw [if_pos h]
    go_enter Try.func63, Try.ntmps63
    go_wp2
    all_goals first | (exfalso; omega) | (go_returns; exact ⟨rfl, rfl⟩)
  · rw [if_neg (by omega)]
    go_enter Try.func63, Try.ntmps63
    go_wp2
    all_goals first | (exfalso; omega) | (go_returns; exact ⟨rfl, rfl⟩)
  · rw [if_neg (by omega)]
    go_enter Try.func63, Try.ntmps63
    go_wp2
    all_goals first | (exfalso; omega) | (go_returns; exact ⟨rfl, rfl⟩)

theorem pushI {w wr w1 : World} {A B : Nat} {v v' : Value} {s : List Int} {b : Int} {ob : Obj} (hbs : IS wr A v s) (hab : B ≤ A) (hbl : Below B w wr) (hs : B ≤ wr.heap.size)
    (h : w1.ownsRow A 2 1 v' (s.length + 1) (s.map (Value.int .i64) ++ [.int .i64 b])) (hg : (wr.alloc ob).grownBy w1 v.ownBlock) : IS w1 A v' (s ++ [b]) ∧ Below B w w1 := by
  refine ⟨?_, (hbl.alloc hs ob).grown hg (by simp; omega) (fun k hk => Nat.le_trans hab (World.ownsRow.lt hbs k hk).1)⟩
  unfold IS
  rw [List.map_append, List.length_append]
  exact h

set_option maxRecDepth 10000 in
set_option maxHeartbeats 6400000 in
theorem spec_depths (a : Option Addr) (m c : Nat) (s : List Cl) (w : World) (ho : OkL s) (h : RK w (.slice a m c) s) (hsm : ∀ j (h : j < s.length), smC 1048576 s[j]) :
    Calls Try.prog 46 #[.slice a m c] w fun e w' => ∃ v, e = .returned v ∧ IS w' w.heap.size v (vlist dpG s s.length) ∧ Below w.heap.size w w' := by
  have HRK : Hid (RK w (.slice a m c) s) := h
  obtain ⟨rs, hrs, hrel⟩ := h
  have hmr : m = rs.length := hrs.len
  have hms : m = s.length := hmr.trans hrel.len
  have hm20 : m ≤ 20 := by rw [hms]; exact ho.len
  have H : Hid (RG 3 rcC w (.slice a m c) rs ∧ RelK w rs s ∧ m = rs.length ∧ m = s.length ∧ OkL s ∧ ∀ j (h : j < s.length), smC 1048576 s[j]) := ⟨hrs, hrel, hmr, hms, ho, hsm⟩
  clear hrs hrel hmr hms ho hsm
  obtain ⟨i0, hi, hz0, hz1, hz2⟩ := info_parts info_i64
  go_enter Try.func46, Try.ntmps46
  go_wp2
  go_loopw [3, 4] (fun vo i wr => ∃ k : Nat, i = .int .i64 k ∧ k ≤ m ∧ Hid (IS wr w.heap.size vo (vlist dpG s k) ∧ Below w.heap.size w wr ∧ vo ≠ .slice none 0 0)) (fun _ i _ => m - (intOf i).toNat)
  case atStart => exact ⟨0, rfl, Nat.zero_le _, IS.lit0 w _ (Nat.le_refl _), (Below.refl _ _).alloc (Nat.le_refl _) _, fun h => by cases h⟩
  case round =>
    obtain ⟨k, rfl, hk, hR⟩ := hrel
    obtain ⟨oa, oc, hvo⟩ := hR.out.1.form
    rw [vlist_length] at hvo
    subst hvo
    by_cases hlt : k < m
    · have hks : k < s.length := by rw [← H.out.2.2.2.1]; exact hlt
      have hkr : k < rs.length := by rw [← H.out.2.2.1]; exact hlt
      obtain ⟨g, o, c2, he, hg, hj⟩ := (H.out.1.below hR.out.2.1).pos (by omega)
      simp only [Value.slice.injEq] at he
      obtain ⟨rfl, hx1, hx2⟩ := he
      obtain ⟨c0, c1, c2⟩ := rcC_at (hj k hkr)
      obtain ⟨r, hr⟩ : ∃ r, r = rs[k] := ⟨_, rfl⟩
      rw [← hr] at c0 c1 c2
      have hr1 : Rc1 wr r s[k] := by rw [hr]; exact (H.out.2.1.below hR.out.2.1).at_ k hkr hks
      obtain ⟨x, hx⟩ : ∃ x, x = s[k] := ⟨_, rfl⟩
      rw [← hx] at hr1
      have hplx : ∀ t (ht : t < x.ps.length), ahB s k (x.ps[t]).c = true := by rw [hx]; exact fun t ht => (H.out.2.2.2.2.1.pl k hks t ht).1
      have hpn : r.pn = x.ps.length := hr1.ps.len
      have hpn20 : r.pn ≤ 20 := by rw [hpn, hx]; exact H.out.2.2.2.2.1.ps k hks
      obtain ⟨nm, ba, bn, bc, pa, pn, pc⟩ := r
      have hps : RG 9 plC wr (.slice pa pn pc) x.ps := hr1.ps
      have HX : Hid (k < s.length ∧ x = s[k] ∧ RG 9 plC wr (.slice pa pn pc) x.ps ∧ pn = x.ps.length) := ⟨hks, hx, hps, hpn⟩
      have HPX : Hid (∀ t (ht : t < x.ps.length), ahB s k (x.ps[t]).c = true) := hplx
      have hpn20' : pn ≤ 20 := hpn20
      clear hx1 hx2 hj hr hr1 hx hpn hps hpn20 hplx
      simp only at c0 c1 c2
      have d0 : (0 : Int) ≤ (k : Int) := by omega
      have d1 : (k : Int) < (m : Int) := by omega
      have HV : Hid (∀ q, 0 ≤ vmap dpG s k q ∧ vmap dpG s k q ≤ 20) := fun q => by have := dp_bound s k q; omega
      obtain ⟨wq, hwq⟩ : ∃ wq, wq = wr := ⟨_, rfl⟩
      rw [← hwq] at hR HX hg c0 c1 c2 ⊢
      clear hwq
      go_wp2
      go_loopw [5, 6] (fun q i wr => ∃ (t : Nat) (z : Int), i = .int .i64 t ∧ t ≤ pn ∧ q = .int .i64 z ∧ 0 ≤ z ∧ z ≤ 20 ∧ Hid (z = dpF (vmap dpG s k) (x.ps.take t) ∧ wr = wq)) (fun _ i _ => pn - (intOf i).toNat)
      case atStart => exact ⟨0, 0, rfl, Nat.zero_le _, rfl, by omega, by omega, by simp [dpF], rfl⟩
      case round =>
        obtain ⟨t, z, rfl, ht, rfl, hz1', hz2', hT⟩ := hrel
        obtain ⟨hTz, hTw⟩ := hT.out
        subst hTw
        by_cases hltt : t < pn
        · have htx : t < x.ps.length := by rw [← HX.out.2.2.2]; exact hltt
          obtain ⟨bg, bo, bc2, hbe, hbg, hbj⟩ := HX.out.2.2.1.pos (by omega)
          simp only [Value.slice.injEq] at hbe
          obtain ⟨rfl, hx1, hx2⟩ := hbe
          obtain ⟨e0, e1, e2, e3, e4, e5, e6, e7, e8⟩ := plC_at (hbj t htx)
          obtain ⟨y, hy⟩ : ∃ y, y = x.ps[t] := ⟨_, rfl⟩
          rw [← hy] at e0
          have hah : ahB s k y.c = true := by rw [hy]; exact HPX.out t htx
          have HY : Hid (t < x.ps.length ∧ y = x.ps[t] ∧ ahB s k y.c = true) := ⟨htx, hy, hah⟩
          clear hx1 hx2 hbj hy hah e1 e2 e3 e4 e5 e6 e7 e8 hT
          have HFI : Hid (Calls Try.prog 34 #[.slice (some ⟨g, o, none⟩) m c, .int .i64 (k : Int), .string y.c] wr fun e w' => ∃ q, e = .returned (.int .i64 q) ∧ FindR s k y.c q ∧ w' = wr) := spec_find _ m c k s y.c wr (by omega) (by omega) (HRK.out.below hR.out.2.1)
          have f0 : (0 : Int) ≤ (t : Int) := by omega
          have f1 : (t : Int) < (pn : Int) := by omega
          go_wp2_with (fail)
          refine HFI.out.mono ?_
          rintro e w1 ⟨q, rfl, hq, rfl⟩
          obtain ⟨i, hiq, hqv⟩ : ∃ i : Nat, q = (i : Int) ∧ i < k ∧ (vlist dpG s k).getD i 0 = vmap dpG s k y.c := by
            rcases hq with ⟨_, h2⟩ | ⟨i, h1, _, h2, h3, h4, _⟩
            · rw [HY.out.2.2] at h2; cases h2
            · refine ⟨i, h1, h3, ?_⟩
              rw [vlist_get h2 k h3, ← h4, vmap_find H.out.2.2.2.2.1 h2 k h3 (by omega)]
          subst hiq
          obtain ⟨og, ocap, hoe, _, hogl, hoc⟩ := hR.out.1.pos (by rw [vlist_length]; omega)
          rw [vlist_length] at hoe hoc
          simp only [Value.slice.injEq, true_and] at hoe
          obtain ⟨rfl, rfl⟩ := hoe
          have hcell := hoc i hqv.1
          rw [hqv.2] at hcell
          obtain ⟨u, hu⟩ : ∃ u, u = vmap dpG s k y.c := ⟨_, rfl⟩
          rw [← hu] at hcell
          have hub := HV.out y.c
          rw [← hu] at hub
          have HU : Hid (u = vmap dpG s k y.c) := hu
          have hi0 : (0 : Int) ≤ (i : Int) := by omega
          have hi1 : (i : Int) < (k : Int) := by omega
          have hmx := fun w => spec_mx z u w
          obtain ⟨z2, hz2e⟩ : ∃ z2, z2 = if z < u then u else z := ⟨_, rfl⟩
          rw [← hz2e] at hmx
          have hz2b : 0 ≤ z2 ∧ z2 ≤ 20 := by rw [hz2e]; split <;> omega
          have HZ2 : Hid (z2 = dpF (vmap dpG s k) (x.ps.take (t + 1))) := by
            unfold Hid
            rw [dpF_step HY.out.1, ← HY.out.2.1, ← HU.out, ← hTz]
            exact hz2e
          clear hq hu hz2e hoc hqv HFI hTz
          go_wp2_with (fail)
          refine (hmx _).mono ?_
          rintro e w1 ⟨rfl, rfl⟩
          go_wp2
          go_roundw
          case rel => exact ⟨t + 1, z2, by go_num, by omega, rfl, hz2b.1, hz2b.2, HZ2.out, by first | rfl | trivial⟩
          case measure => simp [intOf]; omega
        · have HF : Hid (z = dpF (vmap dpG s k) x.ps) := by
            unfold Hid
            rw [hTz, List.take_of_length_le (by rw [← HX.out.2.2.2]; omega)]
          have HBS : Hid (IS wr w.heap.size (.slice oa k oc) (vlist dpG s k) ∧ Below w.heap.size w wr ∧ (Value.slice oa k oc) ≠ .slice none 0 0) := hR.out
          have hsz := hR.out.2.1.size
          clear hT hTz hR
          go_wp2_with (at_builtin; refine wpList_append_own _ rfl _ _ 60 rfl w.heap.size 2 i0 (.int .i64 0) 1 8 Try.underlying60 hi hz0 hz1 hz2 rfl (by decide) (.slice oa k oc) k ((vlist dpG s k).map (Value.int .i64)) rfl (by have := World.ownsRow.alloc HBS.out.1 (.cells #[.int .i64 (1 + z)] 2); rw [vlist_length] at this; exact this) ⟨wr.heap.size, 0, none⟩ 1 1 [.int .i64 (1 + z)] rfl rfl (World.news_of_block (cs := #[.int .i64 (1 + z)]) (t := 2) (fr := (0, 0)) (heap_alloc_new wr _)) (by simp [Value.oneCell']) (by unfold maxLen; omega) (by omega) (by simp; omega) ?_; intro v5 w5 hown5 hgrow5 hnil5)
          have R : Hid (IS w5 w.heap.size v5 (vlist dpG s (k + 1)) ∧ Below w.heap.size w w5 ∧ v5 ≠ .slice none 0 0) := by
            have e : vlist dpG s (k + 1) = vlist dpG s k ++ [1 + z] := by
              rw [vlist, dif_pos HX.out.1, ← HX.out.2.1]
              have : dpG (vmap dpG s k) x = 1 + z := by rw [HF.out]; rfl
              rw [this]
            have hp := pushI (w := w) (v := .slice oa k oc) (b := 1 + z) HBS.out.1 (Nat.le_refl _) HBS.out.2.1 hsz (by rw [vlist_length]; exact hown5) hgrow5
            rw [e]
            exact ⟨hp.1, hp.2, fun h => HBS.out.2.2 (hnil5.1 h).1⟩
          clear hown5 hgrow5 hnil5
          go_wp2
          go_roundw
          case rel => exact ⟨k + 1, by go_num, by omega, R.out⟩
          case measure => simp [intOf]; omega
    · have HD : Hid (IS wr w.heap.size (.slice oa k oc) (vlist dpG s s.length) ∧ Below w.heap.size w wr) := by
        have e : k = s.length := by rw [← H.out.2.2.2.1]; omega
        have h1 := hR.out.1
        rw [show vlist dpG s k = vlist dpG s s.length by rw [e]] at h1
        exact ⟨h1, hR.out.2.1⟩
      clear hR
      go_wp2
      go_returns
      exact ⟨_, rfl, HD.out.1, HD.out.2⟩

end Go.Proofs.Ytfnfedpgemnneaa
