/- Proved here: Deposit of the model. -/
import Derived.Test.YtceljakmjddgbaaDsM
import Derived.Test.YtceljakmjddgbaaLyQ
namespace Go.Proofs.Ytceljakmjddgbaa
open Go.RowKit
set_option linter.unusedVariables false
set_option linter.unusedSimpArgs false

set_option maxRecDepth 10000 in
set_option maxHeartbeats 25600000 in
theorem spec_deposit {w : World} {v : Value} {s : List (List Flm)} (m t : Int) (hn : SmF s) (h : RsC w v s) :
    Calls Try.prog 36 #[.agg #[v], .int .i64 m, .int .i64 t] w fun e w' => ∃ u vs, e = .returned (.agg #[.int .i64 (onC s m t 1 (fun _ => t)), u]) ∧ RoF w' w.heap.size u (onL s m t 1 (fun _ => t)) vs ∧ Below w.heap.size w w' := by
  obtain ⟨a, c, rfl⟩ := h.form
  obtain ⟨n, hnn⟩ : ∃ n, n = s.length := ⟨_, rfl⟩
  obtain ⟨F, hF0⟩ : ∃ F, F = secF s := ⟨_, rfl⟩
  obtain ⟨C, hC⟩ : ∃ C, C = onC s m t 1 (fun _ => t) := ⟨_, rfl⟩
  obtain ⟨L, hL⟩ : ∃ L, L = onL s m t 1 (fun _ => t) := ⟨_, rfl⟩
  rw [← hnn] at h ⊢
  rw [← hC, ← hL]
  have HSF : Hid (∀ W, Below w.heap.size w W → Calls Try.prog 23 #[.agg #[.slice a n c]] W fun e w' => e = .returned (.int .i64 F) ∧ Below W.heap.size W w') := fun W hW => by rw [hF0]; exact spec_secF hn (h.rs.below hW)
  have H : Hid (RsC w (.slice a n c) s ∧ n = s.length ∧ F = secF s ∧ C = onC s m t 1 (fun _ => t) ∧ L = onL s m t 1 (fun _ => t)) := ⟨h, hnn, hF0, hC, hL⟩
  have HBAD : Hid (∀ D, pfC s m t 1 = D → D ≠ 0 → C = D ∧ L = []) := fun D hD hd => by
    have hc2 : C = D := by rw [hC, onC, hD, if_neg hd]
    exact ⟨hc2, by rw [hL, onL, ← hC, if_neg (by rw [hc2]; exact hd)]⟩
  clear h hnn hn hF0 hC hL
  go_enter Try.func36, Try.ntmps36
  go_wp2_with (fail)
  refine (HSF.out _ (by (repeat' (first | (with_reducible exact Below.refl _ _) | (with_reducible assumption) | (with_reducible refine Below.setCell ?_ ?_ _) | (with_reducible refine Below.alloc ?_ ?_ _) | (with_reducible refine below_drewN ?_ _) | (with_reducible refine Below.drew ?_) | (with_reducible exact Nat.le_refl _) | omega | (simp; done) | (simp; omega))))).mono ?_
  rintro e w1 ⟨rfl, hb1⟩
  have k0 := (hb1.block w.heap.size (by simp <;> omega)).trans ((Below.heap_alloc _ _ _ (by simp)).trans (heap_alloc_new w _))
  have k1 := (hb1.block (w.heap.size + 1) (by simp)).trans (kn_at1s w _ _)
  have hbw : Below w.heap.size w w1 := (show Below w.heap.size w _ from by (repeat' (first | (with_reducible exact Below.refl _ _) | (with_reducible assumption) | (with_reducible refine Below.setCell ?_ ?_ _) | (with_reducible refine Below.alloc ?_ ?_ _) | (with_reducible refine below_drewN ?_ _) | (with_reducible refine Below.drew ?_) | (with_reducible exact Nat.le_refl _) | omega | (simp; done) | (simp; omega)))).trans (hb1.mono (by simp; omega))
  have H1 : Hid (Below w.heap.size w w1 ∧ w1.heap[w.heap.size + 1]? = some (.cells #[.int .i64 0, .slice none 0 0] 64)) := ⟨hbw, k1⟩
  obtain ⟨a0, al⟩ := one_ofs k0
  obtain ⟨p0, p1, f0, f1, pl⟩ := two_ofs k1
  have HB0 : Hid (∀ D : Int, Below w.heap.size w ((w1.setCell ⟨w.heap.size + 1, 0, none⟩ (.int .i64 D)).setCell ⟨w.heap.size + 1, 1, none⟩ (.slice none 0 0))) := fun D => by
    have := H1.out.1; (repeat' (first | (with_reducible exact Below.refl _ _) | (with_reducible assumption) | (with_reducible refine Below.setCell ?_ ?_ _) | (with_reducible refine Below.alloc ?_ ?_ _) | (with_reducible refine below_drewN ?_ _) | (with_reducible refine Below.drew ?_) | (with_reducible exact Nat.le_refl _) | omega | (simp; done) | (simp; omega)))
  clear hb1 k0 k1 hbw HSF
  by_cases hF : F = 0
  case neg =>
    obtain ⟨hCF, hLF⟩ := HBAD.out F (by rw [pfC, ← H.out.2.2.1, if_neg hF]) hF
    have HE : Hid (C = F ∧ ∀ W : World, RoF W w.heap.size (.slice none 0 0) L []) := ⟨hCF, fun W => by rw [hLF]; exact RoF.nil _ _⟩
    have hF' : (F == 0) = false := by simpa using hF
    clear hCF hLF
    go_wp2
    refine bodyPost_ret (by simp [results, Try.results36, go_sem, p0, p1, pl]; try rfl) rfl ?_
    first | exact ⟨_, [], by rw [HE.out.1] <;> rfl, HE.out.2 _, HB0.out _⟩ | exact ⟨_, by rw [HE.out.1] <;> rfl, ⟨[], HE.out.2 _⟩, HB0.out _⟩
  have HF : Hid (secF s = 0) := H.out.2.2.1 ▸ hF
  subst hF
  go_wp2_with (fail)
  refine (spec_mat m _).mono ?_
  rintro e w2 ⟨rfl, rfl⟩
  by_cases hm : 1 ≤ m ∧ m ≤ 12
  case neg =>
    rw [decide_eq_false hm]
    obtain ⟨hCF, hLF⟩ := HBAD.out 1 (by rw [pfC, if_pos HF.out, if_neg hm]) (by decide)
    have HE : Hid (C = 1 ∧ ∀ W : World, RoF W w.heap.size (.slice none 0 0) L []) := ⟨hCF, fun W => by rw [hLF]; exact RoF.nil _ _⟩
    clear hCF hLF hm
    go_wp2
    refine bodyPost_ret (by simp [results, Try.results36, go_sem, p0, p1, pl]; try rfl) rfl ?_
    first | exact ⟨_, [], by rw [HE.out.1] <;> rfl, HE.out.2 _, HB0.out _⟩ | exact ⟨_, by rw [HE.out.1] <;> rfl, ⟨[], HE.out.2 _⟩, HB0.out _⟩
  rw [decide_eq_true hm]
  have HM : Hid (1 ≤ m ∧ m ≤ 12) := hm
  clear hm
  go_wp2_with (fail)
  refine (spec_in10 t 1 100000 _).mono ?_
  rintro e w2 ⟨rfl, rfl⟩
  by_cases ht : 1 ≤ t ∧ t ≤ 100000
  case neg =>
    rw [decide_eq_false ht]
    obtain ⟨hCF, hLF⟩ := HBAD.out 3 (by rw [pfC, if_pos HF.out, if_pos HM.out, if_neg ht]) (by decide)
    have HE : Hid (C = 3 ∧ ∀ W : World, RoF W w.heap.size (.slice none 0 0) L []) := ⟨hCF, fun W => by rw [hLF]; exact RoF.nil _ _⟩
    clear hCF hLF ht
    go_wp2
    refine bodyPost_ret (by simp [results, Try.results36, go_sem, p0, p1, pl]; try rfl) rfl ?_
    first | exact ⟨_, [], by rw [HE.out.1] <;> rfl, HE.out.2 _, HB0.out _⟩ | exact ⟨_, by rw [HE.out.1] <;> rfl, ⟨[], HE.out.2 _⟩, HB0.out _⟩
  rw [decide_eq_true ht]
  have HT : Hid (1 ≤ t ∧ t ≤ 100000) := ht
  have HGS : Hid (GS s) := secF_zero.1 HF.out
  have HPF : Hid (C = secF (onS s m (fun _ => t)) ∧ L = if C = 0 then onS s m (fun _ => t) else []) := by
    have hp0 : pfC s m t 1 = 0 := by rw [pfC, if_pos HF.out, if_pos HM.out, if_pos ht]
    have hc2 : C = secF (onS s m (fun _ => t)) := by rw [H.out.2.2.2.1, onC, if_pos hp0]
    exact ⟨hc2, by rw [H.out.2.2.2.2, onL, ← H.out.2.2.2.1]⟩
  clear ht HBAD HB0
  have hn16 : n ≤ 16 := by rw [H.out.2.1]; exact HGS.out.len
  obtain ⟨w1, hw1e⟩ : ∃ x, x = w2 := ⟨_, rfl⟩
  subst hw1e
  have HCP : Hid (Calls Try.prog 69 #[.agg #[.slice a n c]] w1 fun e w' => ∃ v' vs, e = .returned (.agg #[v']) ∧ RoF w' w1.heap.size v' s vs ∧ Below w1.heap.size w1 w') := spec_copy12 HGS.out (H.out.1.below H1.out.1)
  go_wp2_with (fail)
  refine HCP.out.mono ?_
  rintro e w3 ⟨v3, vs0, rfl, hro3, hb3⟩
  obtain ⟨gC, cc, hv3, hgB, _, _⟩ := hro3.pos (by have := HGS.out.pos; omega)
  rw [← H.out.2.1] at hv3
  subst hv3
  clear HCP p0 p1 f0 f1 pl a0 al
  go_wp2_with (fail)
  obtain ⟨K, hK⟩ : ∃ K, K = w3.heap.size := ⟨_, rfl⟩
  obtain ⟨w4, hw4⟩ : ∃ x, x = w3.alloc (.cells #[.slice (some ⟨gC, 0, none⟩) n cc] 47) := ⟨_, rfl⟩
  have HS0 : Hid (DP w w1 K n cc gC (onK s m (fun _ => t) 0) w4) := by
    have hb4 : Below w3.heap.size w3 w4 := by rw [hw4]; (repeat' (first | (with_reducible exact Below.refl _ _) | (with_reducible assumption) | (with_reducible refine Below.setCell ?_ ?_ _) | (with_reducible refine Below.alloc ?_ ?_ _) | (with_reducible refine below_drewN ?_ _) | (with_reducible refine Below.drew ?_) | (with_reducible exact Nat.le_refl _) | omega | (simp; done) | (simp; omega)))
    exact ⟨⟨vs0, by rw [onK_zero]; exact hro3.below hb4⟩, by rw [hw4, hK]; exact heap_alloc_new _ _, hb3.trans (hb4.mono hb3.size)⟩
  go_wp2
  rw [← hw4, ← hK]
  clear hw4 hK hro3 hb3 hgB
  go_loopw [9] (fun i wr => ∃ j : Nat, j ≤ n ∧ i = .int .i64 j ∧ Hid (DP w w1 K n cc gC (onK s m (fun _ => t) j) wr)) (fun i _ => n - (intOf i).toNat)
  case atStart => exact ⟨0, Nat.zero_le _, rfl, HS0.out⟩
  case round =>
    clear HS0
    obtain ⟨j, hjn, rfl, hR⟩ := hrel
    have b0' := cellOf hR.out.kb 0 rfl
    have bl' := ltOf hR.out.kb
    by_cases hlt : j < n
    · obtain ⟨vs, hro⟩ := hR.out.ro
      have hjs : j < s.length := by rw [← H.out.2.1]; exact hlt
      have HJ : Hid (j < s.length) := hjs
      have hjl : j < (onK s m (fun _ => t) j).length := by rw [onK_len]; exact hjs
      obtain ⟨gc', cc', he, _, hgcl, hcc⟩ := hro.pos (by omega)
      injection he with he1 he2 he3
      injection he1 with he4
      injection he4 with he5
      subst he5
      have c0 := hcc j hjl
      have fz : wr.frozen? ⟨gC, j, none⟩ = false := World.ownsRow.frozenAt (show wr.ownsRow w1.heap.size 83 1 (.slice (some ⟨gC, 0, none⟩) n cc) n vs by have := hro.o; rw [onK_len, ← H.out.2.1] at this; exact this) j
      have hrow := hro.bx j hjl
      rw [onK_at s m (fun _ => t) hjs] at hrow
      obtain ⟨xv, hxv⟩ : ∃ x, x = rat vs j := ⟨_, rfl⟩
      rw [← hxv] at c0 hrow
      have hgc := HGS.out.col j hjs
      have HK : Hid (DP w w1 K n cc gC (onK s m (fun _ => t) j) wr ∧ RoF wr w1.heap.size (.slice (some ⟨gC, 0, none⟩) n cc) (onK s m (fun _ => t) j) vs ∧ j < (onK s m (fun _ => t) j).length ∧ xv = rat vs j) := ⟨hR.out, hro, hjl, hxv⟩
      have hthb : 0 ≤ (fun _ => t) (s.getD j []) ∧ (fun _ => t) (s.getD j []) ≤ 100000 := by have h8 := hgc.upto (Nat.le_refl _); have := HT.out; exact ⟨show 0 ≤ t by omega, show t ≤ 100000 by omega⟩
      have HPU : Hid (∀ W, Below wr.heap.size wr W → Calls Try.prog 70 #[xv, .int .i64 m, .int .i64 ((fun _ => t) (s.getD j []))] W fun e w' => ∃ v', e = .returned v' ∧ PF w1.heap.size W w' xv v' (putF (s.getD j []) ⟨m, (fun _ => t) (s.getD j [])⟩)) := fun W hW =>
        spec_put12 m _ (Nat.le_trans hR.out.bl.size hW.size) (Nat.le_trans hgc.len (by omega)) (by omega) (fun k hk => by have := hgc.t hk; omega) (hrow.below hW)
      have HTP : Hid (∀ W, Below wr.heap.size wr W → RG 2 flC W xv (s.getD j [])) := fun W hW => OG.rg flC_len (hrow.below hW)
      have HGC : Hid (GC (s.getD j [])) := hgc
      obtain ⟨xva, xvc, hxvf⟩ := hrow.form
      have b0 : (0 : Int) ≤ (j : Int) := by omega
      have b1 : (j : Int) < (n : Int) := by omega
      clear hro hrow hcc he2 he3 hxv hjl hjs hgc hthb
      go_wp2_with (fail)
      have hkb := hR.out.kb
      clear b0' bl' hR
      have hD0 : Below wr.heap.size wr wr.drew := (Below.refl _ _).drew
      refine wp_region_holdsA (S := fun w' => w'.heap[K]? = some (.cells #[.slice (some ⟨gC, 0, none⟩) n cc] 47)) (by kernel_rfl) hkb (fun hS => ?_)
      refine fl_takeA (i := 0) (d := 33) (v := .pointer (some ⟨K, 0, none⟩)) rfl rfl rfl (by kernel_rfl) (by kernel_rfl) (by kernel_rfl) hS ?_ ?_
      · intro w' hk; have x0 := cellOf hk 0 rfl; have x1 := ltOf hk; go_simp
      simp only [Act.put, List.setIfInBounds_toArray, List.set_cons_zero, List.set_cons_succ]
      refine fl_takeA (i := 1) (d := 34) (v := .slice (some ⟨gC, 0, none⟩) n cc) rfl rfl rfl (by kernel_rfl) (by kernel_rfl) (by kernel_rfl) hS ?_ ?_
      · intro w' hk; have x0 := cellOf hk 0 rfl; have x1 := ltOf hk; go_simp
      simp only [Act.put, List.setIfInBounds_toArray, List.set_cons_zero, List.set_cons_succ]
      refine fl_takeA (i := 2) (d := 35) (v := .int .i64 j) rfl rfl rfl (by kernel_rfl) (by kernel_rfl) (by kernel_rfl) hS ?_ ?_
      · intro w' hk; have x0 := cellOf hk 0 rfl; have x1 := ltOf hk; go_simp
      simp only [Act.put, List.setIfInBounds_toArray, List.set_cons_zero, List.set_cons_succ]
      refine fl_takeA (i := 3) (d := 36) (v := .pointer (some ⟨K, 0, none⟩)) rfl rfl rfl (by kernel_rfl) (by kernel_rfl) (by kernel_rfl) hS ?_ ?_
      · intro w' hk; have x0 := cellOf hk 0 rfl; have x1 := ltOf hk; go_simp
      simp only [Act.put, List.setIfInBounds_toArray, List.set_cons_zero, List.set_cons_succ]
      refine fl_takeA (i := 4) (d := 37) (v := .slice (some ⟨gC, 0, none⟩) n cc) rfl rfl rfl (by kernel_rfl) (by kernel_rfl) (by kernel_rfl) hS ?_ ?_
      · intro w' hk; have x0 := cellOf hk 0 rfl; have x1 := ltOf hk; go_simp
      simp only [Act.put, List.setIfInBounds_toArray, List.set_cons_zero, List.set_cons_succ]
      refine fl_takeA (i := 5) (d := 38) (v := .int .i64 j) rfl rfl rfl (by kernel_rfl) (by kernel_rfl) (by kernel_rfl) hS ?_ ?_
      · intro w' hk; have x0 := cellOf hk 0 rfl; have x1 := ltOf hk; go_simp
      simp only [Act.put, List.setIfInBounds_toArray, List.set_cons_zero, List.set_cons_succ]
      refine fl_takeA (i := 6) (d := 39) (v := .pointer (some ⟨gC, j, none⟩)) rfl rfl rfl (by kernel_rfl) (by kernel_rfl) (by kernel_rfl) hS ?_ ?_
      · intro w' hk; have x0 := cellOf hk 0 rfl; have x1 := ltOf hk; go_simp
      simp only [Act.put, List.setIfInBounds_toArray, List.set_cons_zero, List.set_cons_succ]
      refine fl_takeA (i := 8) (d := 41) (v := .int .i64 m) rfl rfl rfl (by kernel_rfl) (by kernel_rfl) (by kernel_rfl) hS ?_ ?_
      · intro w' hk; have x0 := cellOf hk 0 rfl; have x1 := ltOf hk; go_simp
      simp only [Act.put, List.setIfInBounds_toArray, List.set_cons_zero, List.set_cons_succ]
      refine fl_takeA (i := 9) (d := 42) (v := .int .i64 t) rfl rfl rfl (by kernel_rfl) (by kernel_rfl) (by kernel_rfl) hS ?_ ?_
      · intro w' hk; have x0 := cellOf hk 0 rfl; have x1 := ltOf hk; go_simp
      simp only [Act.put, List.setIfInBounds_toArray, List.set_cons_zero, List.set_cons_succ]
      refine wpAnyH_all (rs := [7]) (by kernel_rfl) (by simp) ?_
      intro i hi
      obtain rfl : i = 7 := by simpa using hi
      clear hi
      refine op_val (d := 40) (v := xv) (w' := wr.drew) rfl rfl rfl (by go_simp) ?_
      simp only [Act.put, List.setIfInBounds_toArray, List.set_cons_zero, List.set_cons_succ]
      refine ⟨hS, ?_⟩
      refine wpAnyH_all (rs := [10]) (by kernel_rfl) (by simp) ?_
      intro i hi
      obtain rfl : i = 10 := by simpa using hi
      clear hi
      refine op_call (d := 43) rfl rfl rfl (by go_simp) ((HPU.out wr.drew hD0).mono ?_)
      rintro e y2 ⟨v2, rfl, hpf⟩
      obtain ⟨xa, xc, hvf⟩ := hpf.o.form
      obtain ⟨xn, hxn⟩ : ∃ x, x = (putF (s.getD j []) ⟨m, (fun _ => t) (s.getD j [])⟩).length := ⟨_, rfl⟩
      rw [← hxn] at hvf
      subst hvf
      clear hxn
      have hA2 := (HK.out.1.below hD0).swap (HK.out.2.1.below hD0) HK.out.2.2.1 (by rw [← HK.out.2.2.2]; exact hpf)
      rw [onK_set s m (fun _ => t) HJ.out] at hA2
      have hhh : y2.heap[gC]? = wr.heap[gC]? := hA2.2.1
      have e0 : y2.cell? ⟨gC, j, none⟩ = some xv := by rw [← c0]; simp [World.cell?, hhh]
      have e1 : y2.frozen? ⟨gC, j, none⟩ = false := by rw [← fz]; simp [World.frozen?, hhh]
      have e2 : gC < y2.heap.size := Nat.lt_of_lt_of_le hgcl hpf.g.size
      refine ⟨_, rfl, hA2.2.2, ?_⟩
      simp only [Act.put, List.setIfInBounds_toArray, List.set_cons_zero, List.set_cons_succ]
      refine wpAnyH_all (rs := [11]) (by kernel_rfl) (by simp) ?_
      intro i hi
      obtain rfl : i = 11 := by simpa using hi
      clear hi
      refine op_val (d := 44) (v := .pointer (some ⟨gC, j, none⟩)) (w' := y2) rfl rfl rfl (by go_simp) ?_
      simp only [Act.put, List.setIfInBounds_toArray, List.set_cons_zero, List.set_cons_succ]
      refine ⟨hA2.2.2, wpAnyH_all (rs := [12]) (by kernel_rfl) (by simp) ?_⟩
      intro i hi
      obtain rfl : i = 12 := by simpa using hi
      clear hi
      refine op_skipN (w' := y2.setCell ⟨gC, j, none⟩ (.slice xa xn xc)) rfl rfl (by go_simp) ?_
      refine ⟨hA2.1.kb, wpAnyH_done (by kernel_rfl) (NoPanic.normal ?_) _⟩
      have HX : Hid (DP w w1 K n cc gC (onK s m (fun _ => t) (j + 1)) (y2.setCell ⟨gC, j, none⟩ (.slice xa xn xc))) := hA2.1
      clear hA2 hpf hhh e0 e1 e2 c0 fz hgcl hD0
      go_wp2
      go_roundw
      case rel => exact ⟨j + 1, by omega, by go_num, HX.out⟩
      case measure => simp [intOf]; omega

    · have HX : Hid (DP w w1 K n cc gC (onS s m (fun _ => t)) wr) := by
        have h1 := hR.out
        rw [show j = s.length by rw [← H.out.2.1]; omega, onK_all] at h1
        exact h1
      clear hR
      have HTO : Hid (Calls Try.prog 71 #[.agg #[.slice (some ⟨gC, 0, none⟩) n cc]] wr fun e w' => e = .returned (.agg #[.int .i64 C, if C = 0 then .slice (some ⟨gC, 0, none⟩) n cc else .slice none 0 0]) ∧ Below wr.heap.size wr w') := by
        obtain ⟨vs, hro⟩ := HX.out.ro
        rw [HPF.out.1]
        refine spec_told (SmF.of (by simp only [onS, List.length_map]; exact HGS.out.len) fun i hi => ?_) hro.rd
        simp only [onS, List.length_map] at hi
        have e1 : (onS s m (fun _ => t)).getD i [] = putF (s.getD i []) ⟨m, (fun _ => t) (s.getD i [])⟩ := by simp [onS, hi]
        rw [e1]
        have h7 := (putF_len (s.getD i []) ⟨m, (fun _ => t) (s.getD i [])⟩).2
        have h8 := (HGS.out.col i hi).len
        omega
      go_wp2_with (fail)
      refine HTO.out.mono ?_
      rintro e w5 ⟨rfl, hb5⟩
      have hX5 := HX.out.below hb5
      have k1 := (hX5.bl.block _ (ltOf H1.out.2)).trans H1.out.2
      obtain ⟨p0, p1, f0, f1, pl⟩ := two_ofs k1
      obtain ⟨q, hq⟩ : ∃ q, q = if C = 0 then .slice (some ⟨gC, 0, none⟩) n cc else (.slice none 0 0 : Value) := ⟨_, rfl⟩
      rw [← hq]
      obtain ⟨qa, qn, qc, hqf⟩ : ∃ qa qn qc, q = .slice qa qn qc := by
        rw [hq]; by_cases h9 : C = 0
        · rw [if_pos h9]; exact ⟨_, _, _, rfl⟩
        · rw [if_neg h9]; exact ⟨_, _, _, rfl⟩
      obtain ⟨W, hW⟩ : ∃ W, W = (w5.setCell ⟨w.heap.size + 1, 0, none⟩ (.int .i64 C)).setCell ⟨w.heap.size + 1, 1, none⟩ q := ⟨_, rfl⟩
      have HFI : Hid (∃ vs, RoF W w.heap.size q L vs ∧ Below w.heap.size w W) := by
        have hbW : Below w.heap.size w W := by rw [hW]; have := H1.out.1.trans (hX5.bl.mono H1.out.1.size); (repeat' (first | (with_reducible exact Below.refl _ _) | (with_reducible assumption) | (with_reducible refine Below.setCell ?_ ?_ _) | (with_reducible refine Below.alloc ?_ ?_ _) | (with_reducible refine below_drewN ?_ _) | (with_reducible refine Below.drew ?_) | (with_reducible exact Nat.le_refl _) | omega | (simp; done) | (simp; omega)))
        by_cases h9 : C = 0
        · obtain ⟨vs, hro⟩ := hX5.ro
          have ho : ∀ z, w1.heap.size ≤ z → W.heap[z]? = w5.heap[z]? := fun z hz => by
            have := ltOf H1.out.2
            rw [hW, heap_setCell_other _ _ _ _ (by simp; omega), heap_setCell_other _ _ _ _ (by simp; omega)]
          refine ⟨vs, ?_, hbW⟩
          rw [HPF.out.2, hq, if_pos h9, if_pos h9]
          exact (hro.kept (fun z hz => ho z (rowBlk hro.o hz).1) (fun i hi z hz => ho z (rowBlk (hro.bx i hi) hz).1)).low H1.out.1.size
        · exact ⟨[], by rw [HPF.out.2, hq, if_neg h9, if_neg h9]; exact RoF.nil _ _, hbW⟩
      subst hqf
      have HWW : Hid _ := hW
      clear hW hX5 k1 hb5 hq HTO HX b0' bl'
      go_wp2
      rw [← HWW.out]
      obtain ⟨vs, z1, z2⟩ := HFI.out
      refine bodyPost_ret (by rw [HWW.out]; simp [results, Try.results36, go_sem, p0, p1, pl]; try rfl) rfl ?_
      first | exact ⟨_, vs, rfl, z1, z2⟩ | exact ⟨_, rfl, ⟨vs, z1⟩, z2⟩

end Go.Proofs.Ytceljakmjddgbaa
