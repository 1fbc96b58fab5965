/- Proved here: l3Counts of the model: vlist cfG. -/
import Derived.Test.YtfnfedpgemnneaaCMap
import Derived.Test.YtfnfedpgemnneaaSDep2
namespace Go.Proofs.Ytfnfedpgemnneaa
open Go.RowKit
set_option linter.unusedVariables false
set_option linter.unusedSimpArgs false

set_option maxHeartbeats 400000 in
theorem spec_cap (a : Int) (w : World) : Calls Try.prog 59 #[.int .i64 a, .int .i64 401] w fun e w' => e = .returned (.int .i64 (cap4 a)) ∧ w' = w := by
  unfold cap4
  rcases (by omega : a < 401 ∨ 401 < a ∨ a = 401) with h | h | rfl
  · rw [if_pos h]
    go_enter Try.func59, Try.ntmps59
    go_wp2
    all_goals first | (exfalso; omega) | (go_returns; exact ⟨rfl, rfl⟩)
  · rw [if_neg (by omega)]
    go_enter Try.func59, Try.ntmps59
    go_wp2
    all_goals first | (exfalso; omega) | (go_returns; exact ⟨rfl, rfl⟩)
  · rw [if_neg (by omega)]
    go_enter Try.func59, Try.ntmps59
    go_wp2
    all_goals first | (exfalso; omega) | (go_returns; exact ⟨rfl, rfl⟩)
theorem IS.below {w w' : World} {B : Nat} {v : Value} {xs : List Int} (h : IS w B v xs) (hb : Below w.heap.size w w') : IS w' B v xs :=
  h.kept fun g hg => hb.block g (World.ownsRow.lt h g hg).2
/-- The index that a name has. -/
theorem find_at {s : List Cl} (ho : OkL s) {k : Nat} (hk : k ≤ s.length) {q : ByteArray} (h : ahB s k q = true) : ∃ i, i < k ∧ (∀ r, FindR s k q r → r = (i : Int)) ∧ ∀ G, (vlist G s k).getD i 0 = vmap G s k q := by
  have h' := h
  unfold ahB at h'
  rw [decide_eq_true_eq, aheadN_pos] at h'
  obtain ⟨i, hi, hik, he⟩ := h'
  refine ⟨i, hik, ?_, fun G => ?_⟩
  · rintro r (⟨_, h2⟩ | ⟨j, rfl, _, hj, hjk, h4, _⟩)
    · rw [h] at h2; cases h2
    · rcases Nat.lt_trichotomy i j with h5 | h5 | h5
      · exact absurd (he.trans h4.symm) (ho.ne hi hj h5)
      · rw [h5]
      · exact absurd (h4.trans he.symm) (ho.ne hj hi h5)
  · rw [vlist_get hi k hik, ← he, vmap_find ho hi k hik hk]

set_option maxRecDepth 10000 in
set_option maxHeartbeats 6400000 in
theorem spec_counts (a : Option Addr) (m c : Nat) (s : List Cl) (w : World) (ho : OkL s) (h : RK w (.slice a m c) s) (hsm : ∀ j (h : j < s.length), smC 1048576 s[j]) :
    Calls Try.prog 35 #[.slice a m c] w fun e w' => ∃ v, e = .returned v ∧ IS w' w.heap.size v (vlist cfG s s.length) ∧ Below w.heap.size w w' := by
  have HRK : Hid (RK w (.slice a m c) s) := h
  obtain ⟨rs, hrs, hrel⟩ := h
  have hmr : m = rs.length := hrs.len
  have hms : m = s.length := hmr.trans hrel.len
  have hm20 : m ≤ 20 := by rw [hms]; exact ho.len
  have H : Hid (RG 3 rcC w (.slice a m c) rs ∧ RelK w rs s ∧ m = rs.length ∧ m = s.length ∧ OkL s ∧ ∀ j (h : j < s.length), smC 1048576 s[j]) := ⟨hrs, hrel, hmr, hms, ho, hsm⟩
  clear hrs hrel hmr hms ho hsm
  obtain ⟨i0, hi, hz0, hz1, hz2⟩ := info_parts info_i64
  go_enter Try.func35, Try.ntmps35
  go_wp2
  go_loopw [3, 4] (fun vo i wr => ∃ k : Nat, i = .int .i64 k ∧ k ≤ m ∧ Hid (IS wr w.heap.size vo (vlist cfG s k) ∧ Below w.heap.size w wr ∧ vo ≠ .slice none 0 0)) (fun _ i _ => m - (intOf i).toNat)
  case atStart => exact ⟨0, rfl, Nat.zero_le _, IS.lit0 w _ (Nat.le_refl _), (Below.refl _ _).alloc (Nat.le_refl _) _, fun h => by cases h⟩
  case round =>
    obtain ⟨k, rfl, hk, hR⟩ := hrel
    obtain ⟨oa, oc, hvo⟩ := hR.out.1.form
    rw [vlist_length] at hvo
    subst hvo
    by_cases hlt : k < m
    · have hks : k < s.length := by rw [← H.out.2.2.2.1]; exact hlt
      have hkr : k < rs.length := by rw [← H.out.2.2.1]; exact hlt
      obtain ⟨g, o, c2, he, hg, hj⟩ := (H.out.1.below hR.out.2.1).pos (by omega)
      simp only [Value.slice.injEq] at he
      obtain ⟨rfl, hx1, hx2⟩ := he
      obtain ⟨c0, c1, c2⟩ := rcC_at (hj k hkr)
      obtain ⟨r, hr⟩ : ∃ r, r = rs[k] := ⟨_, rfl⟩
      rw [← hr] at c0 c1 c2
      have hr1 : Rc1 wr r s[k] := by rw [hr]; exact (H.out.2.1.below hR.out.2.1).at_ k hkr hks
      obtain ⟨x, hx⟩ : ∃ x, x = s[k] := ⟨_, rfl⟩
      rw [← hx] at hr1
      have hplx : ∀ t (ht : t < x.ps.length), ahB s k (x.ps[t]).c = true := by rw [hx]; exact fun t ht => (H.out.2.2.2.2.1.pl k hks t ht).1
      have hpn : r.pn = x.ps.length := hr1.ps.len
      have hbn : r.bn = x.bs.length := hr1.bs.len
      have hpn20 : r.pn ≤ 20 := by rw [hpn, hx]; exact H.out.2.2.2.2.1.ps k hks
      have hbn60 : r.bn ≤ 60 := by rw [hbn, hx]; exact H.out.2.2.2.2.1.bs k hks
      have hnn : ∀ t (ht : t < x.ps.length), 1 ≤ (x.ps[t]).nx ∧ (x.ps[t]).nx ≤ 20 ∧ 1 ≤ (x.ps[t]).ny ∧ (x.ps[t]).ny ≤ 20 := by rw [hx]; exact fun t ht => (H.out.2.2.2.2.1.pl k hks t ht).2
      obtain ⟨nm, ba, bn, bc, pa, pn, pc⟩ := r
      have hps : RG 9 plC wr (.slice pa pn pc) x.ps := hr1.ps
      have HX : Hid (k < s.length ∧ x = s[k] ∧ RG 9 plC wr (.slice pa pn pc) x.ps ∧ pn = x.ps.length ∧ bn = x.bs.length) := ⟨hks, hx, hps, hpn, hbn⟩
      have HPX : Hid ((∀ t (ht : t < x.ps.length), ahB s k (x.ps[t]).c = true) ∧ ∀ t (ht : t < x.ps.length), 1 ≤ (x.ps[t]).nx ∧ (x.ps[t]).nx ≤ 20 ∧ 1 ≤ (x.ps[t]).ny ∧ (x.ps[t]).ny ≤ 20) := ⟨hplx, hnn⟩
      have hpn20' : pn ≤ 20 := hpn20
      have hbn60' : bn ≤ 60 := hbn60
      clear hx1 hx2 hj hr hr1 hx hpn hps hpn20 hplx hbn hbn60 hnn
      simp only at c0 c1 c2
      have d0 : (0 : Int) ≤ (k : Int) := by omega
      have d1 : (k : Int) < (m : Int) := by omega
      have HV : Hid (∀ q, 0 ≤ vmap cfG s k q ∧ vmap cfG s k q ≤ 401) := fun q => cf_bound H.out.2.2.2.2.1 k q
      have HFB : Hid (∀ t, t ≤ x.ps.length → 0 ≤ cfF (vmap cfG s k) (x.ps.take t) bn ∧ cfF (vmap cfG s k) (x.ps.take t) bn ≤ bn + t * 160400) := fun t ht => cfF_bound HV.out x.ps HPX.out.2 bn (by omega) t ht
      obtain ⟨wq, hwq⟩ : ∃ wq, wq = wr := ⟨_, rfl⟩
      rw [← hwq] at hR HX hg c0 c1 c2 ⊢
      clear hwq
      go_wp2
      go_loopw [5, 6] (fun q i wr => ∃ (t : Nat) (z : Int), i = .int .i64 t ∧ t ≤ pn ∧ q = .int .i64 z ∧ 0 ≤ z ∧ z ≤ 4000000 ∧ Hid (z = cfF (vmap cfG s k) (x.ps.take t) bn ∧ Below wq.heap.size wq wr)) (fun _ i _ => pn - (intOf i).toNat)
      case atStart => exact ⟨0, bn, rfl, Nat.zero_le _, by go_num, by omega, by omega, by simp [cfF], Below.refl _ _⟩
      case round =>
        obtain ⟨t, z, rfl, ht, rfl, hz1', hz2', hT⟩ := hrel
        have hbw := hT.out.2
        obtain ⟨hc, hf⟩ := bcell hbw
        rw [← hc _ _ hg] at c0 c1 c2
        have hgw : g < wr.heap.size := Nat.lt_of_lt_of_le hg hbw.size
        clear hc hf hbw
        by_cases hltt : t < pn
        · have htx : t < x.ps.length := by rw [← HX.out.2.2.2.1]; exact hltt
          obtain ⟨bg, bo, bc2, hbe, hbg, hbj⟩ := (HX.out.2.2.1.below hT.out.2).pos (by omega)
          simp only [Value.slice.injEq] at hbe
          obtain ⟨rfl, hx1, hx2⟩ := hbe
          obtain ⟨e0, e1, e2, e3, e4, e5, e6, e7, e8⟩ := plC_at (hbj t htx)
          obtain ⟨y, hy⟩ : ∃ y, y = x.ps[t] := ⟨_, rfl⟩
          rw [← hy] at e0 e1 e2 e3 e4 e5 e6 e7 e8
          have hah : ahB s k y.c = true := by rw [hy]; exact HPX.out.1 t htx
          obtain ⟨n1, n2, n3, n4⟩ : 1 ≤ y.nx ∧ y.nx ≤ 20 ∧ 1 ≤ y.ny ∧ y.ny ≤ 20 := by rw [hy]; exact HPX.out.2 t htx
          obtain ⟨i, hik, hfind, hiv⟩ := find_at H.out.2.2.2.2.1 (Nat.le_of_lt HX.out.1) hah
          obtain ⟨u, hu⟩ : ∃ u, u = vmap cfG s k y.c := ⟨_, rfl⟩
          have hub := HV.out y.c
          rw [← hu] at hub
          obtain ⟨m1, m2, m3, m4⟩ := cf_add n1 n2 n3 n4 hub.1 hub.2
          have HU : Hid (z + y.nx * y.ny * u = cfF (vmap cfG s k) (x.ps.take (t + 1)) bn) := by
            unfold Hid
            rw [cfF_step htx, ← hT.out.1, hu, hy]
          have hnz : 0 ≤ z + y.nx * y.ny * u ∧ z + y.nx * y.ny * u ≤ 4000000 := by
            have h1 := HFB.out (t + 1) htx
            rw [← HU.out] at h1
            omega
          have w1 : IntKind.i64.wrap (y.nx * y.ny) = y.nx * y.ny := by rw [IntKind.wrap_i64]; omega
          have w2 : IntKind.i64.wrap (y.nx * y.ny * u) = y.nx * y.ny * u := by rw [IntKind.wrap_i64]; omega
          have w3 : IntKind.i64.wrap (z + y.nx * y.ny * u) = z + y.nx * y.ny * u := by rw [IntKind.wrap_i64]; omega
          obtain ⟨og, ocap, hoe, _, hogl, hoc⟩ := (hR.out.1.below hT.out.2).pos (by rw [vlist_length]; omega)
          rw [vlist_length] at hoe hoc
          simp only [Value.slice.injEq, true_and] at hoe
          obtain ⟨rfl, rfl⟩ := hoe
          have hcell := hoc i hik
          rw [hiv, ← hu] at hcell
          have HFI : Hid (∀ W, Below wr.heap.size wr W → Calls Try.prog 34 #[.slice (some ⟨g, o, none⟩) m c, .int .i64 (k : Int), .string y.c] W fun e w' => e = .returned (.int .i64 (i : Int)) ∧ w' = W) := fun W hW => (spec_find _ m c k s y.c W (by omega) (by omega) ((HRK.out.below hR.out.2.1).below (hT.out.2.trans (hW.mono hT.out.2.size)))).mono (by
            rintro e w' ⟨r, rfl, hr, rfl⟩
            rw [hfind r hr]
            exact ⟨rfl, rfl⟩)
          have f0 : (0 : Int) ≤ (t : Int) := by omega
          have f1 : (t : Int) < (pn : Int) := by omega
          have i0 : (0 : Int) ≤ (i : Int) := by omega
          have i1 : (i : Int) < (k : Int) := by omega
          have HT : Hid (Below wq.heap.size wq wr) := hT.out.2
          clear hx1 hx2 hbj hy hah hfind hiv hoc hu hT n1 n2 n3 n4 m1 m2 m3 m4
          go_wp2_with (fail)
          obtain ⟨W0, hW0⟩ : ∃ W0, W0 = wr.alloc (.cells #[.string y.c, .int .i64 y.x, .int .i64 y.y, .int .i64 y.t, .bool y.f, .int .i64 y.nx, .int .i64 y.ny, .int .i64 y.dx, .int .i64 y.dy] 78) := ⟨_, rfl⟩
          rw [← hW0]
          have hb0 : Below wr.heap.size wr W0 := by rw [hW0]; exact (Below.refl _ _).alloc (Nat.le_refl _) _
          have hk0 : W0.heap[wr.heap.size]? = some (.cells #[.string y.c, .int .i64 y.x, .int .i64 y.y, .int .i64 y.t, .bool y.f, .int .i64 y.nx, .int .i64 y.ny, .int .i64 y.dx, .int .i64 y.dy] 78) := by rw [hW0]; exact heap_alloc_new _ _
          have hl0 : wr.heap.size < W0.heap.size := by rw [hW0]; simp
          have q0 : W0.cell? ⟨wr.heap.size, 0, none⟩ = some (.string y.c) := by simp [World.cell?, hk0]
          have q5 : W0.cell? ⟨wr.heap.size, 5, none⟩ = some (.int .i64 y.nx) := by simp [World.cell?, hk0]
          have q6 : W0.cell? ⟨wr.heap.size, 6, none⟩ = some (.int .i64 y.ny) := by simp [World.cell?, hk0]
          have hcell0 := (hb0.cell (p := ⟨og, i, none⟩) hogl).trans hcell
          have hog0 : og < W0.heap.size := Nat.lt_trans hogl hl0
          have HF0 : Hid (∀ xx : Und W0.heap.size W0, Calls Try.prog 34 #[.slice (some ⟨g, o, none⟩) m c, .int .i64 (k : Int), .string y.c] xx.W fun e w' => e = .returned (.int .i64 (i : Int)) ∧ w' = xx.W) := fun xx => HFI.out _ (hb0.trans (xx.below.mono (Nat.le_of_lt hl0)))
          have HB0 : Hid (∀ W, Below W0.heap.size W0 W → Below wq.heap.size wq W) := fun W hW => HT.out.trans ((hb0.trans (hW.mono (Nat.le_of_lt hl0))).mono HT.out.size)
          clear hk0 hW0 e0 e1 e2 e3 e4 e5 e6 e7 e8 c0 c1 c2 hcell hogl hb0 HFI HT
          (refine wp_region_und (by kernel_rfl) (by kernel_rfl) (fun hund => ?_); (repeat (go_big_quiet_step (first | (go_at_call 34; with_reducible refine und_call_same (HF0.out _))))); with_reducible refine wpQuiet_nil ?_; clear hund; intro W1 hb1; obtain ⟨hc1, hf1⟩ := bcell hb1)
          have HB1 : Hid (Below wq.heap.size wq W1) := HB0.out _ hb1
          clear hb1 hc1 hf1 HB0 HF0 q0 q5 q6 hcell0
          go_wp2
          go_roundw
          case rel => exact ⟨t + 1, _, by go_num, by omega, rfl, hnz.1, hnz.2, HU.out, HB1.out⟩
          case measure => simp [intOf]; omega
        · obtain ⟨u, hu⟩ : ∃ u, u = cap4 z := ⟨_, rfl⟩
          have HF : Hid (u = cfG (vmap cfG s k) x) := by
            unfold Hid
            rw [hu, hT.out.1, List.take_of_length_le (by rw [← HX.out.2.2.2.1]; omega), HX.out.2.2.2.2]
            rfl
          have HBS : Hid (IS wr w.heap.size (.slice oa k oc) (vlist cfG s k) ∧ Below w.heap.size w wr ∧ (Value.slice oa k oc) ≠ .slice none 0 0) := ⟨hR.out.1.below hT.out.2, hR.out.2.1.trans (hT.out.2.mono hR.out.2.1.size), hR.out.2.2⟩
          have hcap := fun w => spec_cap z w
          rw [← hu] at hcap
          have hsz := HBS.out.2.1.size
          clear hT hR hu
          go_wp2_with (fail)
          refine (hcap _).mono ?_
          rintro e w1 ⟨rfl, rfl⟩
          clear hcap
          go_wp2_with (at_builtin; refine wpList_append_own _ rfl _ _ 60 rfl w.heap.size 2 i0 (.int .i64 0) 1 8 Try.underlying60 hi hz0 hz1 hz2 rfl (by decide) (.slice oa k oc) k ((vlist cfG s k).map (Value.int .i64)) rfl (by have := World.ownsRow.alloc HBS.out.1 (.cells #[.int .i64 u] 2); rw [vlist_length] at this; exact this) ⟨w1.heap.size, 0, none⟩ 1 1 [.int .i64 u] rfl rfl (World.news_of_block (cs := #[.int .i64 u]) (t := 2) (fr := (0, 0)) (heap_alloc_new w1 _)) (by simp [Value.oneCell']) (by unfold maxLen; omega) (by omega) (by simp; omega) ?_; intro v5 w5 hown5 hgrow5 hnil5)
          have R : Hid (IS w5 w.heap.size v5 (vlist cfG s (k + 1)) ∧ Below w.heap.size w w5 ∧ v5 ≠ .slice none 0 0) := by
            have e : vlist cfG s (k + 1) = vlist cfG s k ++ [u] := by
              rw [vlist, dif_pos HX.out.1, ← HX.out.2.1, ← HF.out]
            have hp := pushI (w := w) (v := .slice oa k oc) (b := u) HBS.out.1 (Nat.le_refl _) HBS.out.2.1 hsz (by rw [vlist_length]; exact hown5) hgrow5
            rw [e]
            exact ⟨hp.1, hp.2, fun h => HBS.out.2.2 (hnil5.1 h).1⟩
          clear hown5 hgrow5 hnil5
          go_wp2
          go_roundw
          case rel => exact ⟨k + 1, by go_num, by omega, R.out⟩
          case measure => simp [intOf]; omega
    · have HD : Hid (IS wr w.heap.size (.slice oa k oc) (vlist cfG s s.length) ∧ Below w.heap.size w wr) := by
        have e : k = s.length := by rw [← H.out.2.2.2.1]; omega
        have h1 := hR.out.1
        rw [show vlist cfG s k = vlist cfG s s.length by rw [e]] at h1
        exact ⟨h1, hR.out.2.1⟩
      clear hR
      go_wp2
      go_returns
      exact ⟨_, rfl, HD.out.1, HD.out.2⟩

end Go.Proofs.Ytfnfedpgemnneaa
