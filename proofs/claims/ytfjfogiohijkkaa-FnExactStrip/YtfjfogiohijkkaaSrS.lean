/- Proved here: Strip of the model. -/
import Derived.Test.YtfjfogiohijkkaaPfX
import Derived.Test.YtfjfogiohijkkaaPfS
import Derived.Test.YtfjfogiohijkkaaPfT
import Derived.Test.YtfjfogiohijkkaaSrM
import Derived.Test.YtfjfogiohijkkaaFloat
import Derived.Test.YtfjfogiohijkkaaOpA
import Derived.Deep.Cut
import Derived.StillTail
namespace Go.Proofs.Ytfjfogiohijkkaa
open Go.RowKit
set_option linter.unusedVariables false
set_option linter.unusedSimpArgs false

theorem kinds_ne {w : World} {B g n c : Nat} {xs : List Int} {cs : Array Value} (h : IS w B (.slice (some ⟨g, 0, none⟩) n c) xs) (hk : w.heap[g]? = some (.cells cs 27)) : False := by
  rcases h.2 with ⟨e, _⟩ | ⟨g', cap, cur, e, _, hgc, _⟩
  · cases e
  · injection e with e1
    injection e1 with e2
    injection e2 with e3
    rw [← e3, hk] at hgc
    injection hgc with e4
    injection e4 with _ e5
    cases e5
theorem out_made {V y : World} {K g m c : Nat} {M : List Int} (hy : Below V.heap.size V y) (hk : y.heap[K]? = some (.cells #[.slice none 0 0, .int .i64 0] 27)) (hi : IS y V.heap.size (.slice (some ⟨g, 0, none⟩) m c) M) (hK : V.heap.size ≤ K) (hne : g ≠ K) (o : Int) :
    ∃ W2, W2 = (y.setCell ⟨K, 0, none⟩ (.slice (some ⟨g, 0, none⟩) m c)).setCell ⟨K, 1, none⟩ (.int .i64 o) ∧ Below V.heap.size V W2 ∧ MP V.heap.size K g m c M o W2 ∧ V.heap.size ≤ g := by
  refine ⟨_, rfl, (hy.setCell (p := ⟨K, 0, none⟩) hK _).setCell (p := ⟨K, 1, none⟩) hK _, ⟨?_, ?_, hne, ?_, ⟨(IS.lt hi g rfl).1, hK⟩⟩, (IS.lt hi g rfl).1⟩
  · have s0 := heap_setCell_same _ _ 0 _ _ (.slice (some ⟨g, 0, none⟩) m c) hk
    have s1 := heap_setCell_same _ _ 1 _ _ (.int .i64 o) s0
    simpa using s1
  · exact hi.keepE (by rw [heap_setCell_other _ _ _ _ hne, heap_setCell_other _ _ _ _ hne])
  · obtain ⟨_, _, e⟩ := hi.form; injection e
theorem rd_drop {w : World} {g o n c k : Nat} {s : List Int} (h : RdI w (.slice (some ⟨g, o, none⟩) n c) s) (hk : k < n) : RdI w (.slice (some ⟨g, o + k, none⟩) (n - k) (c - k)) (s.drop k) := by
  have hn : n = s.length := h.len
  obtain ⟨a, c', e, hx⟩ := h
  injection e with e1 e2 e3
  obtain ⟨g', o', e4, hg, hc⟩ := hx (by intro e; rw [e] at hn; simp at hn; omega)
  rw [e4] at e1
  injection e1 with e5
  injection e5 with e6 e7
  subst e6 e7
  refine ⟨some ⟨g, o + k, none⟩, c - k, by rw [List.length_drop, hn], fun _ => ⟨g, o + k, rfl, hg, fun j hj i hi => ?_⟩⟩
  rw [List.length_drop] at hj
  have := hc (k + j) (by omega) i hi
  rw [List.getElem_drop, ← this]
  congr 2
  omega

set_option maxRecDepth 100000 in
set_option maxHeartbeats 12800000 in
theorem spec_strip (o c : Int) {W : World} {v : Value} {s : List Int} (hcp : ∀ a m k, v = .slice a m k → m ≤ k) (hn : s.length ≤ 1048576) (h : RdI W v s) :
    Calls Try.prog 30 #[.agg #[v, .int .i64 o], .int .i64 c] W fun e w' => ∃ v' , e = .returned (.agg #[.int .i64 (srC s o c), v', .int .i64 (tdO (srC s o c) (o + suL (s.take c.toNat)))]) ∧ IS w' W.heap.size v' (tdL (srC s o c) (s.drop c.toNat)) ∧ Below W.heap.size W w' := by
  obtain ⟨ua, uc, rfl⟩ := h.form
  obtain ⟨n, hnn⟩ : ∃ n, n = s.length := ⟨_, rfl⟩
  rw [← hnn] at h hn ⊢
  have HN : Hid (n = s.length) := hnn
  have H : Hid (RdI W (.slice ua n uc) s) := h
  obtain ⟨CC, hCC⟩ : ∃ x, x = srC s o c := ⟨_, rfl⟩
  rw [← hCC]
  obtain ⟨LL, hLL⟩ : ∃ x, x = tdL CC (s.drop c.toNat) := ⟨_, rfl⟩
  obtain ⟨QQ, hQQ⟩ : ∃ x, x = tdO CC (o + suL (s.take c.toNat)) := ⟨_, rfl⟩
  rw [← hLL, ← hQQ]
  have hcap : n ≤ uc := by rw [hnn]; exact hcp _ _ _ rfl
  clear hcp
  have HZ : Hid (CC ≠ 0 → LL = [] ∧ QQ = 0) := fun h9 => by rw [hLL, hQQ, tdL, tdO, if_neg h9, if_neg h9]; exact ⟨rfl, rfl⟩
  have HF : Hid (CC = srC s o c ∧ LL = tdL CC (s.drop c.toNat) ∧ QQ = tdO CC (o + suL (s.take c.toNat))) := ⟨hCC, hLL, hQQ⟩
  obtain ⟨C, hC⟩ : ∃ C, C = pfC s o := ⟨_, rfl⟩
  have HP : Hid (∀ V, Below W.heap.size W V → Calls Try.prog 10 #[.agg #[.slice ua n uc, .int .i64 o]] V fun e w' => e = .returned (.int .i64 C) ∧ Below V.heap.size V w') := fun V hV => by
    have := spec_pf o (by rw [← HN.out]; exact hn) (H.out.below hV)
    rwa [← hC] at this
  have HC : Hid (C = pfC s o) := hC
  clear hC hCC hLL hQQ h hnn
  by_cases h0 : C ≠ 0
  · have hC2 : (C != 0) = true := by simpa using h0
    have hcc : CC = C := by rw [HF.out.1, HC.out]; exact srC_bad (by rw [← HC.out]; exact h0)
    obtain ⟨e1, e2⟩ := HZ.out (by rw [hcc]; exact h0)
    subst e1 e2
    clear HF
    subst hcc
    go_enter Try.func30, Try.ntmps30
    go_wp2_with (fail)
    refine (HP.out _ (by (repeat' (first | (with_reducible exact Below.refl _ _) | (with_reducible assumption) | (with_reducible refine Below.setCell ?_ ?_ _) | (with_reducible refine Below.alloc ?_ ?_ _) | (with_reducible refine below_drewN ?_ _) | (with_reducible refine Below.drew ?_) | (with_reducible exact Nat.le_refl _) | omega | (simp; done) | (simp; omega))))).mono ?_
    rintro e w1 ⟨rfl, hb1⟩
    have HB : Hid (BB W [(W.heap.size, .cells #[.slice ua n uc, .int .i64 o] 27), (W.heap.size + 1, .cells #[.int .i64 0, .slice none 0 0, .int .i64 0] 36)] (W.heap.size + 1 + 1) w1) := (((BB.start W).push rfl _).push (k := W.heap.size + 1) (by simp) _).grow hb1 (by omega) (by have := hb1.size; simpa using this)
    clear hb1
    obtain ⟨k0, hk0⟩ : ∃ k, k = W.heap.size := ⟨_, rfl⟩
    rw [← hk0] at HB ⊢
    have HK : Hid (k0 = W.heap.size) := hk0
    clear hk0
    have a0_0 := cellOf (HB.out.at 0 rfl) 0 rfl
    have a0_1 := cellOf (HB.out.at 0 rfl) 1 rfl
    have a0_l := ltOf (HB.out.at 0 rfl)
    have t0 := cellOf (HB.out.at 1 rfl) 0 rfl
    have f0 := frozOf (HB.out.at 1 rfl) 0
    have t1 := cellOf (HB.out.at 1 rfl) 1 rfl
    have f1 := frozOf (HB.out.at 1 rfl) 1
    have t2 := cellOf (HB.out.at 1 rfl) 2 rfl
    have f2 := frozOf (HB.out.at 1 rfl) 2
    have tl := ltOf (HB.out.at 1 rfl)
    have q2 := (((HB.out.set 1 0 rfl (.int .i64 CC)).set 1 1 rfl (.slice none 0 0)).set 1 2 rfl (.int .i64 0))
    have u0 := cellOf (q2.at 1 rfl) 0 rfl
    have u1 := cellOf (q2.at 1 rfl) 1 rfl
    have u2 := cellOf (q2.at 1 rfl) 2 rfl
    have QB : Hid _ := q2.bl
    clear q2
    go_wp2
    refine bodyPost_ret (by simp [results, Try.results30, go_sem, u0, u1, u2]) rfl ⟨.slice none 0 0, rfl, World.ownsRow_nil _ _ _ _, QB.out⟩
  have h0' : C = 0 := by simpa using h0
  have hC0 : pfC s o = 0 := by rw [← HC.out]; exact h0'
  have HG : Hid (PG s o ∧ pfC s o = 0) := ⟨pfC_ok hC0, hC0⟩
  subst h0'
  clear h0 hC0 HC
  have k1 : IntKind.i64.wrap ((n : Int) - 1) = (n : Int) - 1 := by rw [IntKind.wrap_i64]; omega
  have HIN : Hid (∀ (r : Bool) (V : World), r = decide (0 ≤ c ∧ c ≤ (n : Int) - 1) → Calls Try.prog 33 #[.int .i64 c, .int .i64 0, .int .i64 ((n : Int) - 1)] V fun e w' => e = .returned (.bool r) ∧ w' = V) := fun r V hr => spec_ins c 0 _ r hr V
  by_cases h1 : ¬ (0 ≤ c ∧ c ≤ (n : Int) - 1)
  · have hcc : CC = 3 := by rw [HF.out.1]; exact srC_out HG.out.2 (by rw [← HN.out]; exact h1)
    obtain ⟨e1, e2⟩ := HZ.out (by rw [hcc]; decide)
    subst e1 e2
    clear HF
    subst hcc
    go_enter Try.func30, Try.ntmps30
    go_wp2_with (fail)
    refine (HP.out _ (by (repeat' (first | (with_reducible exact Below.refl _ _) | (with_reducible assumption) | (with_reducible refine Below.setCell ?_ ?_ _) | (with_reducible refine Below.alloc ?_ ?_ _) | (with_reducible refine below_drewN ?_ _) | (with_reducible refine Below.drew ?_) | (with_reducible exact Nat.le_refl _) | omega | (simp; done) | (simp; omega))))).mono ?_
    rintro e w1 ⟨rfl, hb1⟩
    have HB : Hid (BB W [(W.heap.size, .cells #[.slice ua n uc, .int .i64 o] 27), (W.heap.size + 1, .cells #[.int .i64 0, .slice none 0 0, .int .i64 0] 36)] (W.heap.size + 1 + 1) w1) := (((BB.start W).push rfl _).push (k := W.heap.size + 1) (by simp) _).grow hb1 (by omega) (by have := hb1.size; simpa using this)
    clear hb1
    obtain ⟨k0, hk0⟩ : ∃ k, k = W.heap.size := ⟨_, rfl⟩
    rw [← hk0] at HB ⊢
    have HK : Hid (k0 = W.heap.size) := hk0
    clear hk0
    have a0_0 := cellOf (HB.out.at 0 rfl) 0 rfl
    have a0_1 := cellOf (HB.out.at 0 rfl) 1 rfl
    have a0_l := ltOf (HB.out.at 0 rfl)
    go_wp2_with (fail)
    refine (HIN.out false _ (by simpa using h1)).mono ?_
    rintro e w3 ⟨rfl, hw⟩
    obtain rfl : w1 = w3 := hw.symm
    have t0 := cellOf (HB.out.at 1 rfl) 0 rfl
    have f0 := frozOf (HB.out.at 1 rfl) 0
    have t1 := cellOf (HB.out.at 1 rfl) 1 rfl
    have f1 := frozOf (HB.out.at 1 rfl) 1
    have t2 := cellOf (HB.out.at 1 rfl) 2 rfl
    have f2 := frozOf (HB.out.at 1 rfl) 2
    have tl := ltOf (HB.out.at 1 rfl)
    have q2 := (((HB.out.set 1 0 rfl (.int .i64 3)).set 1 1 rfl (.slice none 0 0)).set 1 2 rfl (.int .i64 0))
    have u0 := cellOf (q2.at 1 rfl) 0 rfl
    have u1 := cellOf (q2.at 1 rfl) 1 rfl
    have u2 := cellOf (q2.at 1 rfl) 2 rfl
    have QB : Hid _ := q2.bl
    clear q2
    go_wp2
    refine bodyPost_ret (by simp [results, Try.results30, go_sem, u0, u1, u2]) rfl ⟨.slice none 0 0, rfl, World.ownsRow_nil _ _ _ _, QB.out⟩
  have h2 : 0 ≤ c ∧ c ≤ (n : Int) - 1 := by simpa using h1
  clear h1
  go_enter Try.func30, Try.ntmps30
  go_wp2_with (fail)
  refine (HP.out _ (by (repeat' (first | (with_reducible exact Below.refl _ _) | (with_reducible assumption) | (with_reducible refine Below.setCell ?_ ?_ _) | (with_reducible refine Below.alloc ?_ ?_ _) | (with_reducible refine below_drewN ?_ _) | (with_reducible refine Below.drew ?_) | (with_reducible exact Nat.le_refl _) | omega | (simp; done) | (simp; omega))))).mono ?_
  rintro e w1 ⟨rfl, hb1⟩
  have HB : Hid (BB W [(W.heap.size, .cells #[.slice ua n uc, .int .i64 o] 27), (W.heap.size + 1, .cells #[.int .i64 0, .slice none 0 0, .int .i64 0] 36)] (W.heap.size + 1 + 1) w1) := (((BB.start W).push rfl _).push (k := W.heap.size + 1) (by simp) _).grow hb1 (by omega) (by have := hb1.size; simpa using this)
  clear hb1
  obtain ⟨k0, hk0⟩ : ∃ k, k = W.heap.size := ⟨_, rfl⟩
  rw [← hk0] at HB ⊢
  have HK : Hid (k0 = W.heap.size) := hk0
  clear hk0
  have a0_0 := cellOf (HB.out.at 0 rfl) 0 rfl
  have a0_1 := cellOf (HB.out.at 0 rfl) 1 rfl
  have a0_l := ltOf (HB.out.at 0 rfl)

  go_wp2_with (fail)
  refine (HIN.out true _ (by simpa using h2)).mono ?_
  rintro e w3 ⟨rfl, hw⟩
  obtain rfl : w1 = w3 := hw.symm
  clear hw
  obtain ⟨cn, hcn⟩ : ∃ k : Nat, c = (k : Int) := ⟨c.toNat, by omega⟩
  subst hcn
  have hcl : cn < n := by omega
  obtain ⟨ug, uo, hue1⟩ : ∃ g o, ua = some ⟨g, o, none⟩ := by
    obtain ⟨ug, uo, ucap, hue, hug, _⟩ := H.out.ri (by rw [← HN.out]; omega)
    injection hue with hue1 _ _
    exact ⟨_, _, hue1⟩
  subst hue1
  have HSL : Hid (∀ W', Below w1.heap.size w1 W' → RdI W' (.slice (some ⟨ug, uo + cn, none⟩) (n - cn) (uc - cn)) (s.drop cn)) := fun W' h' => rd_drop ((H.out.below HB.out.bl).below h') (by omega)
  obtain ⟨i0, hi0, hz0, hz1, hz2⟩ := info_parts info_i64
  have b0 : (0 : Int) ≤ (cn : Int) := by omega
  have b1 : (cn : Int) ≤ (n : Int) := by omega
  have b2 : (n : Int) ≤ (uc : Int) := by omega
  go_wp2_with (fail)
  go_cut [6] from 7 (fun r6 wx => ∃ K g cap, r6 = .pointer (some ⟨K, 0, none⟩) ∧ Hid (Below w1.heap.size w1 wx ∧ MP w1.heap.size K g (n - cn) cap (s.drop cn) o wx ∧ w1.heap.size ≤ g))
  case first =>
    refine wp_region_float (by kernel_rfl) (fun hS => ?_)
    refine fl_take (i := 1) (d := 23) (v := .pointer (some ⟨k0, 0, none⟩)) rfl rfl rfl (by kernel_rfl) (by kernel_rfl) (by kernel_rfl) hS ?_ ?_
    · intro w' hk; go_simp
    simp only [Act.put, List.setIfInBounds_toArray, List.set_cons_zero, List.set_cons_succ]
    refine fl_take (i := 2) (d := 24) (v := .slice (some ⟨ug, uo, none⟩) n uc) rfl rfl rfl (by kernel_rfl) (by kernel_rfl) (by kernel_rfl) hS ?_ ?_
    · intro w' hk; go_simp
    simp only [Act.put, List.setIfInBounds_toArray, List.set_cons_zero, List.set_cons_succ]
    refine fl_take (i := 3) (d := 25) (v := .int .i64 (cn : Int)) rfl rfl rfl (by kernel_rfl) (by kernel_rfl) (by kernel_rfl) hS ?_ ?_
    · intro w' hk; go_simp
    simp only [Act.put, List.setIfInBounds_toArray, List.set_cons_zero, List.set_cons_succ]
    refine fl_take (i := 4) (d := 26) (v := .slice (some ⟨ug, uo + cn, none⟩) (n - cn) (uc - cn)) rfl rfl rfl (by kernel_rfl) (by kernel_rfl) (by kernel_rfl) hS ?_ ?_
    · intro w' hk; go_simp; try (intro e9; omega)
    simp only [Act.put, List.setIfInBounds_toArray, List.set_cons_zero, List.set_cons_succ]
    refine fl_take (i := 6) (d := 28) (v := .pointer (some ⟨k0, 1, none⟩)) rfl rfl rfl (by kernel_rfl) (by kernel_rfl) (by kernel_rfl) hS ?_ ?_
    · intro w' hk; go_simp
    simp only [Act.put, List.setIfInBounds_toArray, List.set_cons_zero, List.set_cons_succ]
    refine fl_take (i := 7) (d := 29) (v := .int .i64 o) rfl rfl rfl (by kernel_rfl) (by kernel_rfl) (by kernel_rfl) hS ?_ ?_
    · intro w' hk; go_simp
    simp only [Act.put, List.setIfInBounds_toArray, List.set_cons_zero, List.set_cons_succ]
    have hy0 : Below w1.heap.size w1 w1.drew := (Below.refl _ _).drew
    refine wpAnyH_all (rs := [0, 9]) (by kernel_rfl) (by simp) ?_
    intro iz hi
    rcases (by simpa using hi : iz = 0 ∨ iz = 9) with rfl | rfl
    · clear hi
      obtain ⟨Vda, eVda⟩ : ∃ y, y = w1.drew.alloc (.cells #[] 2) := ⟨_, rfl⟩
      have bVda : Below w1.drew.heap.size w1.drew Vda := by rw [eVda]; (repeat' (first | (with_reducible exact Below.refl _ _) | (with_reducible assumption) | (with_reducible refine Below.setCell ?_ ?_ _) | (with_reducible refine Below.alloc ?_ ?_ _) | (with_reducible refine below_drewN ?_ _) | (with_reducible refine Below.drew ?_) | (with_reducible exact Nat.le_refl _) | omega | (simp; done) | (simp; omega)))
      have hVda : Below w1.heap.size w1 Vda := hy0.trans (bVda.mono hy0.size)
      have lVda : IS Vda w1.heap.size (.slice (some ⟨w1.drew.heap.size, 0, none⟩) 0 0) [] := by rw [eVda]; exact is_lit0 w1.drew _ hy0.size
      refine op_val (d := 22) (v := .slice (some ⟨w1.drew.heap.size, 0, none⟩) 0 0) (w' := w1.drew.alloc (.cells #[] 2)) rfl rfl rfl (by go_simp; try rfl) ?_
      simp only [Act.put, List.setIfInBounds_toArray, List.set_cons_zero, List.set_cons_succ]
      rw [← eVda]
      obtain ⟨gVda, egVda⟩ : ∃ g, g = w1.drew.heap.size := ⟨_, rfl⟩
      rw [← egVda] at lVda ⊢
      clear egVda eVda
      refine ⟨KS.of hVda, ?_⟩
      refine wpAnyH_all (rs := [5, 9]) (by kernel_rfl) (by simp) ?_
      intro iz hi
      rcases (by simpa using hi : iz = 5 ∨ iz = 9) with rfl | rfl
      · clear hi
        have rVdap : RdI Vda (.slice (some ⟨ug, uo + cn, none⟩) (n - cn) (uc - cn)) (s.drop cn) := HSL.out _ hVda
        refine op_appA (dd := 27) rfl rfl rfl _ _ 22 rfl w1.heap.size 2 i0 (.int .i64 0) 1 8 Try.underlying22 hi0 hz0 hz1 hz2 rfl (by decide) (.slice (some ⟨gVda, 0, none⟩) 0 0) 0 [] rfl lVda (some ⟨ug, uo + cn, none⟩) (n - cn) (uc - cn) ((s.drop cn).map (Value.int .i64)) rfl (by rw [List.length_map, List.length_drop, HN.out]; omega) (fun e => by cases e) (fun ad e => by cases e; exact row_news rVdap) (ones_int _) (by unfold maxLen; omega) (by omega) hVda.size ?_
        intro v1 Vdap oVdap gVdap
        have bVdap : Below w1.heap.size Vda Vdap := (Below.refl _ _).grown gVdap hVda.size (fun q hq => by have := (IS.lt lVda q hq).1; omega)
        have hVdap : Below w1.heap.size w1 Vdap := hVda.trans bVdap
        have iVdap : IS Vdap w1.heap.size v1 (s.drop cn) := by
          unfold IS
          rw [List.length_drop, ← HN.out]
          simpa using oVdap
        obtain ⟨qVdap, cap, e9, _, _, _⟩ := iVdap.pos (by rw [List.length_drop, ← HN.out]; omega)
        rw [List.length_drop, ← HN.out] at e9
        subst e9
        refine ⟨KS.of hVdap, ?_⟩
        simp only [Act.put, List.setIfInBounds_toArray, List.set_cons_zero, List.set_cons_succ]
        refine wpAnyH_all (rs := [8, 9]) (by kernel_rfl) (by simp) ?_
        intro iz hi
        rcases (by simpa using hi : iz = 8 ∨ iz = 9) with rfl | rfl
        · clear hi
          refine op_val (d := 30) (v := .agg #[.slice (some ⟨qVdap, 0, none⟩) (n - cn) cap, .int .i64 o]) (w' := Vdap) rfl rfl rfl (by go_simp; try rfl) ?_
          simp only [Act.put, List.setIfInBounds_toArray, List.set_cons_zero, List.set_cons_succ]
          refine ⟨KS.of hVdap, ?_⟩
          refine wpAnyH_all (rs := [9]) (by kernel_rfl) (by simp) ?_
          intro iz hi
          obtain rfl : iz = 9 := by simpa using hi
          clear hi
          obtain ⟨Vdapk, eVdapk⟩ : ∃ y, y = Vdap.alloc (.cells #[.slice none 0 0, .int .i64 0] 27) := ⟨_, rfl⟩
          have bVdapk : Below Vdap.heap.size Vdap Vdapk := by rw [eVdapk]; (repeat' (first | (with_reducible exact Below.refl _ _) | (with_reducible assumption) | (with_reducible refine Below.setCell ?_ ?_ _) | (with_reducible refine Below.alloc ?_ ?_ _) | (with_reducible refine below_drewN ?_ _) | (with_reducible refine Below.drew ?_) | (with_reducible exact Nat.le_refl _) | omega | (simp; done) | (simp; omega)))
          have hVdapk : Below w1.heap.size w1 Vdapk := hVdap.trans (bVdapk.mono hVdap.size)
          have kVdapk : Vdapk.heap[Vdap.heap.size]? = some (.cells #[.slice none 0 0, .int .i64 0] 27) := by rw [eVdapk]; exact heap_alloc_new _ _
          have iVdapk := iVdap.bel bVdapk
          have nVdapk : qVdap < Vdap.heap.size := (IS.lt iVdap _ rfl).2
          have mVdapk : w1.heap.size ≤ Vdap.heap.size := hVdap.size
          refine op_val (d := 6) (v := .pointer (some ⟨Vdap.heap.size, 0, none⟩)) (w' := Vdap.alloc (.cells #[.slice none 0 0, .int .i64 0] 27)) rfl rfl rfl (by go_simp; try rfl) ?_
          simp only [Act.put, List.setIfInBounds_toArray, List.set_cons_zero, List.set_cons_succ]
          rw [← eVdapk]
          obtain ⟨KVdapk, eKVdapk⟩ : ∃ g, g = Vdap.heap.size := ⟨_, rfl⟩
          rw [← eKVdapk] at kVdapk mVdapk nVdapk ⊢
          clear eKVdapk eVdapk
          refine ⟨KS.of hVdapk, ?_⟩
          refine wpAnyH_all (rs := [10]) (by kernel_rfl) (by simp) ?_
          intro iz hi
          obtain rfl : iz = 10 := by simpa using hi
          clear hi
          have t0 := cellOf kVdapk 0 rfl
          have t1 := cellOf kVdapk 1 rfl
          have f0 := frozOf kVdapk 0
          have f1 := frozOf kVdapk 1
          have tl := ltOf kVdapk
          obtain ⟨W2, hW2, fa, fb, fc⟩ := out_made hVdapk kVdapk iVdapk mVdapk (fun e => kinds_ne iVdapk (by rw [e]; exact kVdapk)) o
          refine op_skipN (w' := (Vdapk.setCell ⟨KVdapk, 0, none⟩ (.slice (some ⟨qVdap, 0, none⟩) (n - cn) cap)).setCell ⟨KVdapk, 1, none⟩ (.int .i64 o)) rfl rfl (by go_simp; try rfl) ?_
          rw [← hW2]
          refine ⟨KS.of fa, wpAnyH_done (by kernel_rfl) (NoPanic.normal ?_) _⟩
          go_wp2_with (fail)
          go_meet
          exact ⟨KVdapk, qVdap, cap, rfl, fa, fb, fc⟩
        · clear hi
          obtain ⟨Vdapk, eVdapk⟩ : ∃ y, y = Vdap.alloc (.cells #[.slice none 0 0, .int .i64 0] 27) := ⟨_, rfl⟩
          have bVdapk : Below Vdap.heap.size Vdap Vdapk := by rw [eVdapk]; (repeat' (first | (with_reducible exact Below.refl _ _) | (with_reducible assumption) | (with_reducible refine Below.setCell ?_ ?_ _) | (with_reducible refine Below.alloc ?_ ?_ _) | (with_reducible refine below_drewN ?_ _) | (with_reducible refine Below.drew ?_) | (with_reducible exact Nat.le_refl _) | omega | (simp; done) | (simp; omega)))
          have hVdapk : Below w1.heap.size w1 Vdapk := hVdap.trans (bVdapk.mono hVdap.size)
          have kVdapk : Vdapk.heap[Vdap.heap.size]? = some (.cells #[.slice none 0 0, .int .i64 0] 27) := by rw [eVdapk]; exact heap_alloc_new _ _
          have iVdapk := iVdap.bel bVdapk
          have nVdapk : qVdap < Vdap.heap.size := (IS.lt iVdap _ rfl).2
          have mVdapk : w1.heap.size ≤ Vdap.heap.size := hVdap.size
          refine op_val (d := 6) (v := .pointer (some ⟨Vdap.heap.size, 0, none⟩)) (w' := Vdap.alloc (.cells #[.slice none 0 0, .int .i64 0] 27)) rfl rfl rfl (by go_simp; try rfl) ?_
          simp only [Act.put, List.setIfInBounds_toArray, List.set_cons_zero, List.set_cons_succ]
          rw [← eVdapk]
          obtain ⟨KVdapk, eKVdapk⟩ : ∃ g, g = Vdap.heap.size := ⟨_, rfl⟩
          rw [← eKVdapk] at kVdapk mVdapk nVdapk ⊢
          clear eKVdapk eVdapk
          refine ⟨KS.of hVdapk, ?_⟩
          refine wpAnyH_all (rs := [8]) (by kernel_rfl) (by simp) ?_
          intro iz hi
          obtain rfl : iz = 8 := by simpa using hi
          clear hi
          refine op_val (d := 30) (v := .agg #[.slice (some ⟨qVdap, 0, none⟩) (n - cn) cap, .int .i64 o]) (w' := Vdapk) rfl rfl rfl (by go_simp; try rfl) ?_
          simp only [Act.put, List.setIfInBounds_toArray, List.set_cons_zero, List.set_cons_succ]
          refine ⟨KS.of hVdapk, ?_⟩
          refine wpAnyH_all (rs := [10]) (by kernel_rfl) (by simp) ?_
          intro iz hi
          obtain rfl : iz = 10 := by simpa using hi
          clear hi
          have t0 := cellOf kVdapk 0 rfl
          have t1 := cellOf kVdapk 1 rfl
          have f0 := frozOf kVdapk 0
          have f1 := frozOf kVdapk 1
          have tl := ltOf kVdapk
          obtain ⟨W2, hW2, fa, fb, fc⟩ := out_made hVdapk kVdapk iVdapk mVdapk (fun e => kinds_ne iVdapk (by rw [e]; exact kVdapk)) o
          refine op_skipN (w' := (Vdapk.setCell ⟨KVdapk, 0, none⟩ (.slice (some ⟨qVdap, 0, none⟩) (n - cn) cap)).setCell ⟨KVdapk, 1, none⟩ (.int .i64 o)) rfl rfl (by go_simp; try rfl) ?_
          rw [← hW2]
          refine ⟨KS.of fa, wpAnyH_done (by kernel_rfl) (NoPanic.normal ?_) _⟩
          go_wp2_with (fail)
          go_meet
          exact ⟨KVdapk, qVdap, cap, rfl, fa, fb, fc⟩
      · clear hi
        obtain ⟨Vdak, eVdak⟩ : ∃ y, y = Vda.alloc (.cells #[.slice none 0 0, .int .i64 0] 27) := ⟨_, rfl⟩
        have bVdak : Below Vda.heap.size Vda Vdak := by rw [eVdak]; (repeat' (first | (with_reducible exact Below.refl _ _) | (with_reducible assumption) | (with_reducible refine Below.setCell ?_ ?_ _) | (with_reducible refine Below.alloc ?_ ?_ _) | (with_reducible refine below_drewN ?_ _) | (with_reducible refine Below.drew ?_) | (with_reducible exact Nat.le_refl _) | omega | (simp; done) | (simp; omega)))
        have hVdak : Below w1.heap.size w1 Vdak := hVda.trans (bVdak.mono hVda.size)
        have kVdak : Vdak.heap[Vda.heap.size]? = some (.cells #[.slice none 0 0, .int .i64 0] 27) := by rw [eVdak]; exact heap_alloc_new _ _
        have lVdak := lVda.bel bVdak
        have nVdak : gVda < Vda.heap.size := (IS.lt lVda _ rfl).2
        have mVdak : w1.heap.size ≤ Vda.heap.size := hVda.size
        refine op_val (d := 6) (v := .pointer (some ⟨Vda.heap.size, 0, none⟩)) (w' := Vda.alloc (.cells #[.slice none 0 0, .int .i64 0] 27)) rfl rfl rfl (by go_simp; try rfl) ?_
        simp only [Act.put, List.setIfInBounds_toArray, List.set_cons_zero, List.set_cons_succ]
        rw [← eVdak]
        obtain ⟨KVdak, eKVdak⟩ : ∃ g, g = Vda.heap.size := ⟨_, rfl⟩
        rw [← eKVdak] at kVdak mVdak nVdak ⊢
        clear eKVdak eVdak
        refine ⟨KS.of hVdak, ?_⟩
        refine wpAnyH_all (rs := [5]) (by kernel_rfl) (by simp) ?_
        intro iz hi
        obtain rfl : iz = 5 := by simpa using hi
        clear hi
        have rVdakp : RdI Vdak (.slice (some ⟨ug, uo + cn, none⟩) (n - cn) (uc - cn)) (s.drop cn) := HSL.out _ hVdak
        refine op_appA (dd := 27) rfl rfl rfl _ _ 22 rfl w1.heap.size 2 i0 (.int .i64 0) 1 8 Try.underlying22 hi0 hz0 hz1 hz2 rfl (by decide) (.slice (some ⟨gVda, 0, none⟩) 0 0) 0 [] rfl lVdak (some ⟨ug, uo + cn, none⟩) (n - cn) (uc - cn) ((s.drop cn).map (Value.int .i64)) rfl (by rw [List.length_map, List.length_drop, HN.out]; omega) (fun e => by cases e) (fun ad e => by cases e; exact row_news rVdakp) (ones_int _) (by unfold maxLen; omega) (by omega) hVdak.size ?_
        intro v1 Vdakp oVdakp gVdakp
        have bVdakp : Below w1.heap.size Vdak Vdakp := (Below.refl _ _).grown gVdakp hVdak.size (fun q hq => by have := (IS.lt lVdak q hq).1; omega)
        have hVdakp : Below w1.heap.size w1 Vdakp := hVdak.trans bVdakp
        have iVdakp : IS Vdakp w1.heap.size v1 (s.drop cn) := by
          unfold IS
          rw [List.length_drop, ← HN.out]
          simpa using oVdakp
        have kVdakp : Vdakp.heap[KVdak]? = some (.cells #[.slice none 0 0, .int .i64 0] 27) := (gVdakp.block _ (ltOf kVdak) (fun e => by have e9 : gVda = KVdak := (Option.some.inj e).symm; exact kinds_ne lVdak (by rw [e9]; exact kVdak))).trans kVdak
        obtain ⟨qVdakp, cap, e9, _, _, _⟩ := iVdakp.pos (by rw [List.length_drop, ← HN.out]; omega)
        rw [List.length_drop, ← HN.out] at e9
        subst e9
        refine ⟨KS.of hVdakp, ?_⟩
        simp only [Act.put, List.setIfInBounds_toArray, List.set_cons_zero, List.set_cons_succ]
        refine wpAnyH_all (rs := [8]) (by kernel_rfl) (by simp) ?_
        intro iz hi
        obtain rfl : iz = 8 := by simpa using hi
        clear hi
        refine op_val (d := 30) (v := .agg #[.slice (some ⟨qVdakp, 0, none⟩) (n - cn) cap, .int .i64 o]) (w' := Vdakp) rfl rfl rfl (by go_simp; try rfl) ?_
        simp only [Act.put, List.setIfInBounds_toArray, List.set_cons_zero, List.set_cons_succ]
        refine ⟨KS.of hVdakp, ?_⟩
        refine wpAnyH_all (rs := [10]) (by kernel_rfl) (by simp) ?_
        intro iz hi
        obtain rfl : iz = 10 := by simpa using hi
        clear hi
        have t0 := cellOf kVdakp 0 rfl
        have t1 := cellOf kVdakp 1 rfl
        have f0 := frozOf kVdakp 0
        have f1 := frozOf kVdakp 1
        have tl := ltOf kVdakp
        obtain ⟨W2, hW2, fa, fb, fc⟩ := out_made hVdakp kVdakp iVdakp mVdak (fun e => kinds_ne iVdakp (by rw [e]; exact kVdakp)) o
        refine op_skipN (w' := (Vdakp.setCell ⟨KVdak, 0, none⟩ (.slice (some ⟨qVdakp, 0, none⟩) (n - cn) cap)).setCell ⟨KVdak, 1, none⟩ (.int .i64 o)) rfl rfl (by go_simp; try rfl) ?_
        rw [← hW2]
        refine ⟨KS.of fa, wpAnyH_done (by kernel_rfl) (NoPanic.normal ?_) _⟩
        go_wp2_with (fail)
        go_meet
        exact ⟨KVdak, qVdakp, cap, rfl, fa, fb, fc⟩
    · clear hi
      obtain ⟨Vdk, eVdk⟩ : ∃ y, y = w1.drew.alloc (.cells #[.slice none 0 0, .int .i64 0] 27) := ⟨_, rfl⟩
      have bVdk : Below w1.drew.heap.size w1.drew Vdk := by rw [eVdk]; (repeat' (first | (with_reducible exact Below.refl _ _) | (with_reducible assumption) | (with_reducible refine Below.setCell ?_ ?_ _) | (with_reducible refine Below.alloc ?_ ?_ _) | (with_reducible refine below_drewN ?_ _) | (with_reducible refine Below.drew ?_) | (with_reducible exact Nat.le_refl _) | omega | (simp; done) | (simp; omega)))
      have hVdk : Below w1.heap.size w1 Vdk := hy0.trans (bVdk.mono hy0.size)
      have kVdk : Vdk.heap[w1.drew.heap.size]? = some (.cells #[.slice none 0 0, .int .i64 0] 27) := by rw [eVdk]; exact heap_alloc_new _ _
      have mVdk : w1.heap.size ≤ w1.drew.heap.size := hy0.size
      refine op_val (d := 6) (v := .pointer (some ⟨w1.drew.heap.size, 0, none⟩)) (w' := w1.drew.alloc (.cells #[.slice none 0 0, .int .i64 0] 27)) rfl rfl rfl (by go_simp; try rfl) ?_
      simp only [Act.put, List.setIfInBounds_toArray, List.set_cons_zero, List.set_cons_succ]
      rw [← eVdk]
      obtain ⟨KVdk, eKVdk⟩ : ∃ g, g = w1.drew.heap.size := ⟨_, rfl⟩
      rw [← eKVdk] at kVdk mVdk ⊢
      clear eKVdk eVdk
      refine ⟨KS.of hVdk, ?_⟩
      refine wpAnyH_all (rs := [0]) (by kernel_rfl) (by simp) ?_
      intro iz hi
      obtain rfl : iz = 0 := by simpa using hi
      clear hi
      obtain ⟨Vdka, eVdka⟩ : ∃ y, y = Vdk.alloc (.cells #[] 2) := ⟨_, rfl⟩
      have bVdka : Below Vdk.heap.size Vdk Vdka := by rw [eVdka]; (repeat' (first | (with_reducible exact Below.refl _ _) | (with_reducible assumption) | (with_reducible refine Below.setCell ?_ ?_ _) | (with_reducible refine Below.alloc ?_ ?_ _) | (with_reducible refine below_drewN ?_ _) | (with_reducible refine Below.drew ?_) | (with_reducible exact Nat.le_refl _) | omega | (simp; done) | (simp; omega)))
      have hVdka : Below w1.heap.size w1 Vdka := hVdk.trans (bVdka.mono hVdk.size)
      have lVdka : IS Vdka w1.heap.size (.slice (some ⟨Vdk.heap.size, 0, none⟩) 0 0) [] := by rw [eVdka]; exact is_lit0 Vdk _ hVdk.size
      have kVdka := (bVdka.block _ (ltOf kVdk)).trans kVdk
      have nVdka : KVdk < Vdk.heap.size := ltOf kVdk
      refine op_val (d := 22) (v := .slice (some ⟨Vdk.heap.size, 0, none⟩) 0 0) (w' := Vdk.alloc (.cells #[] 2)) rfl rfl rfl (by go_simp; try rfl) ?_
      simp only [Act.put, List.setIfInBounds_toArray, List.set_cons_zero, List.set_cons_succ]
      rw [← eVdka]
      obtain ⟨gVdka, egVdka⟩ : ∃ g, g = Vdk.heap.size := ⟨_, rfl⟩
      rw [← egVdka] at lVdka nVdka ⊢
      clear egVdka eVdka
      refine ⟨KS.of hVdka, ?_⟩
      refine wpAnyH_all (rs := [5]) (by kernel_rfl) (by simp) ?_
      intro iz hi
      obtain rfl : iz = 5 := by simpa using hi
      clear hi
      have rVdkap : RdI Vdka (.slice (some ⟨ug, uo + cn, none⟩) (n - cn) (uc - cn)) (s.drop cn) := HSL.out _ hVdka
      refine op_appA (dd := 27) rfl rfl rfl _ _ 22 rfl w1.heap.size 2 i0 (.int .i64 0) 1 8 Try.underlying22 hi0 hz0 hz1 hz2 rfl (by decide) (.slice (some ⟨gVdka, 0, none⟩) 0 0) 0 [] rfl lVdka (some ⟨ug, uo + cn, none⟩) (n - cn) (uc - cn) ((s.drop cn).map (Value.int .i64)) rfl (by rw [List.length_map, List.length_drop, HN.out]; omega) (fun e => by cases e) (fun ad e => by cases e; exact row_news rVdkap) (ones_int _) (by unfold maxLen; omega) (by omega) hVdka.size ?_
      intro v1 Vdkap oVdkap gVdkap
      have bVdkap : Below w1.heap.size Vdka Vdkap := (Below.refl _ _).grown gVdkap hVdka.size (fun q hq => by have := (IS.lt lVdka q hq).1; omega)
      have hVdkap : Below w1.heap.size w1 Vdkap := hVdka.trans bVdkap
      have iVdkap : IS Vdkap w1.heap.size v1 (s.drop cn) := by
        unfold IS
        rw [List.length_drop, ← HN.out]
        simpa using oVdkap
      have kVdkap : Vdkap.heap[KVdk]? = some (.cells #[.slice none 0 0, .int .i64 0] 27) := (gVdkap.block _ (ltOf kVdka) (fun e => by have e9 : gVdka = KVdk := (Option.some.inj e).symm; exact kinds_ne lVdka (by rw [e9]; exact kVdka))).trans kVdka
      obtain ⟨qVdkap, cap, e9, _, _, _⟩ := iVdkap.pos (by rw [List.length_drop, ← HN.out]; omega)
      rw [List.length_drop, ← HN.out] at e9
      subst e9
      refine ⟨KS.of hVdkap, ?_⟩
      simp only [Act.put, List.setIfInBounds_toArray, List.set_cons_zero, List.set_cons_succ]
      refine wpAnyH_all (rs := [8]) (by kernel_rfl) (by simp) ?_
      intro iz hi
      obtain rfl : iz = 8 := by simpa using hi
      clear hi
      refine op_val (d := 30) (v := .agg #[.slice (some ⟨qVdkap, 0, none⟩) (n - cn) cap, .int .i64 o]) (w' := Vdkap) rfl rfl rfl (by go_simp; try rfl) ?_
      simp only [Act.put, List.setIfInBounds_toArray, List.set_cons_zero, List.set_cons_succ]
      refine ⟨KS.of hVdkap, ?_⟩
      refine wpAnyH_all (rs := [10]) (by kernel_rfl) (by simp) ?_
      intro iz hi
      obtain rfl : iz = 10 := by simpa using hi
      clear hi
      have t0 := cellOf kVdkap 0 rfl
      have t1 := cellOf kVdkap 1 rfl
      have f0 := frozOf kVdkap 0
      have f1 := frozOf kVdkap 1
      have tl := ltOf kVdkap
      obtain ⟨W2, hW2, fa, fb, fc⟩ := out_made hVdkap kVdkap iVdkap mVdk (fun e => kinds_ne iVdkap (by rw [e]; exact kVdkap)) o
      refine op_skipN (w' := (Vdkap.setCell ⟨KVdk, 0, none⟩ (.slice (some ⟨qVdkap, 0, none⟩) (n - cn) cap)).setCell ⟨KVdk, 1, none⟩ (.int .i64 o)) rfl rfl (by go_simp; try rfl) ?_
      rw [← hW2]
      refine ⟨KS.of fa, wpAnyH_done (by kernel_rfl) (NoPanic.normal ?_) _⟩
      go_wp2_with (fail)
      go_meet
      exact ⟨KVdk, qVdkap, cap, rfl, fa, fb, fc⟩

  case rest =>
    obtain ⟨K, g, cp, rfl, hR⟩ := hcut
    obtain ⟨nn, hnn⟩ : ∃ m, m = n - cn := ⟨_, rfl⟩
    obtain ⟨M, hM⟩ : ∃ M, M = s.drop cn := ⟨_, rfl⟩
    have HMl : Hid (M.length = n - cn ∧ cn ≤ s.length) := ⟨by rw [hM, List.length_drop, HN.out], by rw [← HN.out]; omega⟩
    have hln : M.length ≤ 1048576 := by rw [HMl.out.1]; omega
    have HNE : Hid (g ≠ k0 + 1 ∧ K ≠ k0 + 1 ∧ g ≠ K ∧ K ≠ k0) := ⟨by have := hR.out.2.2; have := HB.out.sz; omega, by have := hR.out.2.1.lo; have := HB.out.sz; omega, hR.out.2.1.ne, by have := hR.out.2.1.lo; have := HB.out.sz; omega⟩
    have HR0 : Hid (MP W.heap.size K g nn cp M (o + suL (s.take 0)) wc ∧ BB W [(k0, .cells #[.slice (some ⟨ug, uo, none⟩) n uc, .int .i64 o] 27), (k0 + 1, .cells #[.int .i64 0, .slice none 0 0, .int .i64 0] 36)] (k0 + 1 + 1) wc) := by
      have h9 := hR.out.2.1
      rw [hnn, hM]
      refine ⟨⟨by simpa [suL] using h9.bx, h9.is.low HB.out.bl.size, h9.ne, h9.len, ⟨by have := h9.lo; have := HB.out.bl.size; omega, by have := h9.lo; have := HB.out.bl.size; omega⟩⟩, HB.out.below hR.out.1⟩
    have HCM0 := HF.out
    rw [srC_in HG.out.2 (by rw [← HN.out]; exact h2)] at HCM0
    have HCM1 : Hid (CC = pfC M (o + suL (s.take cn)) ∧ LL = tdL CC M ∧ QQ = tdO CC (o + suL (s.take cn))) := by rw [hM]; exact HCM0
    clear hR hM HCM0 a0_0 a0_1 a0_l hnn HSL
    go_wp2_with (fail)
    go_loopw [7] (fun i wr => ∃ (k : Nat), k ≤ cn ∧ i = .int .i64 k ∧ Hid (MP W.heap.size K g nn cp M (o + suL (s.take k)) wr ∧ BB W [(k0, .cells #[.slice (some ⟨ug, uo, none⟩) n uc, .int .i64 o] 27), (k0 + 1, .cells #[.int .i64 0, .slice none 0 0, .int .i64 0] 36)] (k0 + 1 + 1) wr)) (fun i _ => cn - (intOf i).toNat)
    case atStart => exact ⟨0, Nat.zero_le _, rfl, HR0.out⟩
    case round =>
      clear HR0
      obtain ⟨k, hk, rfl, hR⟩ := hrel
      by_cases hlt : k < cn
      · have hks : k < s.length := by have := HMl.out.2; omega
        obtain ⟨x, hx⟩ : ∃ x, x = s.getD k 0 := ⟨_, rfl⟩
        obtain ⟨O, hO⟩ : ∃ O, O = o + suL (s.take k) := ⟨_, rfl⟩
        have hq := suL_bd HG.out.1.c (k + 1) hks
        have hq0 := suL_bd HG.out.1.c k (by omega)
        have ho := HG.out.1.o0
        have hl := HG.out.1.len
        have hS2 : O + x = o + suL (s.take (k + 1)) := by rw [suL_take hks, hO, hx]; omega
        have k2 : IntKind.i64.wrap (O + x) = O + x := by rw [IntKind.wrap_i64]; omega
        have d0 := (rd_at ((H.out.below hR.out.2.bl)) (show k < n by omega))
        obtain ⟨gq, oq, eq, hgq, d1⟩ := d0
        injection eq with e5
        injection e5 with e6 e7
        subst e6 e7
        rw [← hx] at d1
        have z0 := cellOf (hR.out.2.at 0 rfl) 0 rfl
        have z0l := ltOf (hR.out.2.at 0 rfl)
        have m1 : wr.cell? ⟨K, 1, none⟩ = some (.int .i64 O) := by rw [hO]; exact cellOf hR.out.1.bx 1 rfl
        have m1f := frozOf hR.out.1.bx 1
        have ml := ltOf hR.out.1.bx
        have HR : Hid (MP W.heap.size K g nn cp M (o + suL (s.take (k + 1))) (wr.drew.setCell ⟨K, 1, none⟩ (.int .i64 (O + x))) ∧ BB W [(k0, .cells #[.slice (some ⟨ug, uo, none⟩) n uc, .int .i64 o] 27), (k0 + 1, .cells #[.int .i64 0, .slice none 0 0, .int .i64 0] 36)] (k0 + 1 + 1) (wr.drew.setCell ⟨K, 1, none⟩ (.int .i64 (O + x)))) := by
          have hd : Below wr.heap.size wr wr.drew := (Below.refl _ _).drew
          rw [← hS2]
          refine ⟨(hR.out.1.below hd).setO (O + x), (hR.out.2.below hd).other hR.out.1.lo.2 (fun p hp => ?_) _⟩
          simp only [List.mem_cons, List.not_mem_nil, or_false] at hp
          rcases hp with rfl | rfl
          · exact fun e => HNE.out.2.2.2 e.symm
          · exact fun e => HNE.out.2.1 e.symm
        have b3 : (0 : Int) ≤ (k : Int) := by omega
        have b4 : (k : Int) < (n : Int) := by omega
        have b5 : (k : Int) < (cn : Int) := by omega
        clear hR hx hO hq hq0 ho hl hS2 hks
        go_wp2_with (fail)
        refine wp_region_still_tail 9 (by kernel_rfl) (by kernel_rfl) ?_
        have hdw : ({ wr with drawn := wr.drawn + 1 } : World) = wr.drew := rfl
        rw [hdw]
        clear hdw
        simp only [List.take_succ_cons, List.take_zero, List.drop_succ_cons, List.drop_zero]
        iterate 9 still_step
        refine wpStill_nil ?_
        go_wp2
        go_roundw
        case rel => exact ⟨k + 1, by omega, by go_num, HR.out⟩
        case measure => simp [intOf] <;> omega
      · obtain rfl : k = cn := by omega
        obtain ⟨O, hO⟩ : ∃ O, O = o + suL (s.take k) := ⟨_, rfl⟩
        have HM : Hid (MP W.heap.size K g nn cp M O wr) := by rw [hO]; exact hR.out.1
        have HX : Hid (BB W [(k0, .cells #[.slice (some ⟨ug, uo, none⟩) n uc, .int .i64 o] 27), (k0 + 1, .cells #[.int .i64 0, .slice none 0 0, .int .i64 0] 36)] (k0 + 1 + 1) wr) := hR.out.2
        have HCM : Hid (CC = pfC M O ∧ LL = tdL CC M ∧ QQ = tdO CC O) := by rw [hO]; exact HCM1.out
        clear hR hO HCM1
        have ma0 := cellOf HM.out.bx 0 rfl
        have ma1 := cellOf HM.out.bx 1 rfl
        have mal := ltOf HM.out.bx
        by_cases hz : pfC (M) (O) = 0
        · obtain ⟨e1, e2, e3⟩ : CC = 0 ∧ LL = M ∧ QQ = O := ⟨by rw [HCM.out.1, hz], by rw [HCM.out.2.1, tdL, if_pos (by rw [HCM.out.1, hz])], by rw [HCM.out.2.2, tdO, if_pos (by rw [HCM.out.1, hz])]⟩
          have HA : Hid (∀ V, Below wr.heap.size wr V → Calls Try.prog 37 #[.agg #[.slice (some ⟨g, 0, none⟩) nn cp, .int .i64 O]] V fun e w' => e = .returned (.agg #[.int .i64 0, .slice (some ⟨g, 0, none⟩) nn cp, .int .i64 QQ]) ∧ Below V.heap.size V w') := fun V hV => by
            have := spec_ans_ok hz (HM.out.rd.below hV)
            rw [e3]; exact this
          clear hz
          subst e1
          clear e3
          have HLL : Hid (LL = M) := e2
          clear e2
          go_wp2_with (fail)
          refine (HA.out _ (Below.refl _ _)).mono ?_
          rintro e w5 ⟨rfl, hb5⟩
          have HX5 := HX.out.below hb5
          have HM5 := HM.out.below hb5
          clear hb5 ma0 ma1 mal
          have t0 := cellOf (HX5.at 1 rfl) 0 rfl
          have f0 := frozOf (HX5.at 1 rfl) 0
          have t1 := cellOf (HX5.at 1 rfl) 1 rfl
          have f1 := frozOf (HX5.at 1 rfl) 1
          have t2 := cellOf (HX5.at 1 rfl) 2 rfl
          have f2 := frozOf (HX5.at 1 rfl) 2
          have tl := ltOf (HX5.at 1 rfl)
          have q2 := (((HX5.set 1 0 rfl (.int .i64 0)).set 1 1 rfl (.slice (some ⟨g, 0, none⟩) nn cp)).set 1 2 rfl (.int .i64 QQ))
          have q3 := q2
          have u0 := cellOf (q3.at 1 rfl) 0 rfl
          have u1 := cellOf (q3.at 1 rfl) 1 rfl
          have u2 := cellOf (q3.at 1 rfl) 2 rfl
          have QB : Hid _ := q3.bl
          have HI : Hid (IS (((w5.setCell ⟨k0 + 1, 0, none⟩ (.int .i64 0)).setCell ⟨k0 + 1, 1, none⟩ (.slice (some ⟨g, 0, none⟩) nn cp)).setCell ⟨k0 + 1, 2, none⟩ (.int .i64 QQ)) W.heap.size (.slice (some ⟨g, 0, none⟩) nn cp) LL) := by
            unfold Hid
            rw [HLL.out]
            refine HM5.is.keepE ?_
            rw [heap_setCell_other _ _ _ _ HNE.out.1, heap_setCell_other _ _ _ _ HNE.out.1, heap_setCell_other _ _ _ _ HNE.out.1]
          clear q2 q3
          go_wp2
          refine bodyPost_ret (by simp [results, Try.results30, go_sem, u0, u1, u2]) rfl ⟨.slice (some ⟨g, 0, none⟩) nn cp, rfl, HI.out, QB.out⟩
        · obtain ⟨e1, e2⟩ := HZ.out (by rw [HCM.out.1]; exact hz)
          have HA : Hid (∀ V, Below wr.heap.size wr V → Calls Try.prog 37 #[.agg #[.slice (some ⟨g, 0, none⟩) nn cp, .int .i64 O]] V fun e w' => e = .returned (.agg #[.int .i64 CC, .slice none 0 0, .int .i64 0]) ∧ Below V.heap.size V w') := fun V hV => by
            have := spec_ans_bad hln hz (HM.out.rd.below hV)
            rwa [← HCM.out.1] at this
          clear hz
          subst e1 e2
          go_wp2_with (fail)
          refine (HA.out _ (Below.refl _ _)).mono ?_
          rintro e w5 ⟨rfl, hb5⟩
          have HX5 := HX.out.below hb5
          have HM5 := HM.out.below hb5
          clear hb5 ma0 ma1 mal
          have t0 := cellOf (HX5.at 1 rfl) 0 rfl
          have f0 := frozOf (HX5.at 1 rfl) 0
          have t1 := cellOf (HX5.at 1 rfl) 1 rfl
          have f1 := frozOf (HX5.at 1 rfl) 1
          have t2 := cellOf (HX5.at 1 rfl) 2 rfl
          have f2 := frozOf (HX5.at 1 rfl) 2
          have tl := ltOf (HX5.at 1 rfl)
          have q2 := (((HX5.set 1 0 rfl (.int .i64 CC)).set 1 1 rfl (.slice none 0 0)).set 1 2 rfl (.int .i64 0))
          have q3 := q2
          have u0 := cellOf (q3.at 1 rfl) 0 rfl
          have u1 := cellOf (q3.at 1 rfl) 1 rfl
          have u2 := cellOf (q3.at 1 rfl) 2 rfl
          have QB : Hid _ := q3.bl
          clear q2 q3
          go_wp2
          refine bodyPost_ret (by simp [results, Try.results30, go_sem, u0, u1, u2]) rfl ⟨.slice none 0 0, rfl, World.ownsRow_nil _ _ _ _, QB.out⟩

end Go.Proofs.Ytfjfogiohijkkaa
