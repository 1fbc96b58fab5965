/- Proved here: ClustersOf of the program. -/
import Derived.Test.YtngpjglcjbdblaaVgX
import Derived.Test.YtngpjglcjbdblaaVgD
import Derived.Test.YtngpjglcjbdblaaVdI
import Derived.Test.YtngpjglcjbdblaaInsC
import Derived.Test.YtngpjglcjbdblaaVsE
import Derived.Test.YtngpjglcjbdblaaLwS
import Derived.Test.YtngpjglcjbdblaaTmC
import Derived.StillTail
import Derived.Deep.DeepCutAuto
namespace Go.Proofs.Ytngpjglcjbdblaa
open Go.RowKit Go.Maps
set_option linter.unusedVariables false
set_option linter.unusedSimpArgs false

theorem ik_make (w : World) : (Instr.makeMap 51 none).run Try.prog w = .ok (.map (some w.heap.size)) (w.alloc (.map #[] 0)) := by
  have h := run_underlying Try.underlying51 w
  simp [Instr.makeMap, h]

set_option maxRecDepth 10000 in
set_option maxHeartbeats 25600000 in
theorem impl_vg {W : World} {v : Value} {s : List Dft} (near : Int) (hn : s.length ≤ 1048576) (h : RG 4 vdC W v s) :
    Calls Try.prog 8 #[v, .int .i64 near] W fun e w' => ∃ v, e = .returned (.agg #[.int .i64 (vgC s near), v]) ∧ IS w' W.heap.size v (vgL s near) ∧ Below W.heap.size W w' := by
  obtain ⟨da, dc, rfl⟩ := h.form
  obtain ⟨C, hC⟩ : ∃ C, C = vgC s near := ⟨_, rfl⟩
  obtain ⟨L, hL⟩ : ∃ L, L = vgL s near := ⟨_, rfl⟩
  obtain ⟨n, hdn⟩ : ∃ n, n = s.length := ⟨_, rfl⟩
  obtain ⟨FA, hF⟩ : ∃ F, F = vdF s := ⟨_, rfl⟩
  have HF : Hid (∀ X, Below W.heap.size W X → Calls Try.prog 23 #[.slice da n dc] X fun e w' => e = .returned (.int .i64 FA) ∧ Below X.heap.size X w') := fun X hX => by
    rw [hF, hdn]; exact impl_vdF hn (h.below hX)
  obtain ⟨r1, hr1⟩ : ∃ r, r = decide (0 ≤ near ∧ near ≤ 1000) := ⟨_, rfl⟩
  have HI1 : Hid (∀ X, Calls Try.prog 24 #[.int .i64 near, .int .i64 0, .int .i64 1000] X fun e w' => e = .returned (.bool r1) ∧ w' = X) := fun X => impl_insC _ _ _ _ hr1 X
  have HCC : Hid (C = if FA = 0 then (if r1 then 0 else 3) else FA) := by
    unfold Hid; rw [hC, hF, hr1]; unfold vgC
    by_cases h9 : 0 ≤ near ∧ near ≤ 1000 <;> simp [h9]
  rw [← hdn] at h ⊢
  rw [← hC, ← hL]
  have H0 : Hid (RG 4 vdC W (.slice da n dc) s ∧ C = vgC s near ∧ L = vgL s near ∧ n = s.length) := ⟨h, hC, hL, hdn⟩
  clear h hC hL hdn hF hn hr1
  obtain ⟨k0, hk0⟩ : ∃ k, k = W.heap.size := ⟨_, rfl⟩
  obtain ⟨V0, hV0⟩ : ∃ V, V = W.alloc (.cells #[.int .i64 0, .slice none 0 0] 26) := ⟨_, rfl⟩
  have HB0 : Hid (Below k0 W V0 ∧ V0.heap.size = k0 + 1 ∧ k0 = W.heap.size) := ⟨by rw [hV0, hk0]; (repeat' (first | (with_reducible exact Below.refl _ _) | (with_reducible assumption) | (with_reducible refine Below.setCell ?_ ?_ _) | (with_reducible refine Below.alloc ?_ ?_ _) | (with_reducible refine below_drewN ?_ _) | (with_reducible refine Below.drew ?_) | (with_reducible exact Nat.le_refl _) | omega | (simp; done) | (simp; omega))), by rw [hV0, hk0]; simp, hk0⟩
  have HQ1 : Hid (V0.heap[k0]? = some (.cells #[.int .i64 0, .slice none 0 0] 26)) := by rw [hV0, hk0]; exact heap_alloc_new W _
  have HV0 : Hid (V0 = W.alloc (.cells #[.int .i64 0, .slice none 0 0] 26) ∧ k0 = W.heap.size) := ⟨hV0, hk0⟩
  clear hV0 hk0
  go_enter Try.func8, Try.ntmps8
  go_wp2_with (fail)
  rw [← HV0.out.1, ← HV0.out.2]
  clear HV0
  refine (HF.out _ (by rw [← HB0.out.2.2]; exact HB0.out.1)).mono ?_
  rintro e w1 ⟨rfl, hb1⟩
  have HB1 : Hid (Below k0 W w1) := HB0.out.1.trans (hb1.mono (by have := HB0.out.2; omega))
  have q1 := (hb1.block k0 (by have := HB0.out.2; omega)).trans HQ1.out
  have HKW : Hid (k0 = W.heap.size ∧ k0 + 1 ≤ w1.heap.size) := ⟨HB0.out.2.2, by have := hb1.size; have := HB0.out.2; omega⟩
  clear hb1 HQ1 HB0 HF
  by_cases hc : FA = 0
  case neg =>
    have hc2 : (FA != 0) = true := by simp [hc]
    have HE : Hid (C = FA ∧ L = []) := by
      have h0 : C = FA := by rw [HCC.out, if_neg hc]
      have h1 : ¬ vgC s near = 0 := by rw [← H0.out.2.1, h0]; exact hc
      exact ⟨h0, by rw [H0.out.2.2.1]; exact vgL_bad h1⟩
    have q9 := q1
    have z0 : w1.cell? ⟨k0, 0, none⟩ = some (.int .i64 0) := cellOf q9 0 rfl
    have z1 : w1.cell? ⟨k0, 1, none⟩ = some (.slice none 0 0) := cellOf q9 1 rfl
    have zf0 := frozOf q9 0
    have zf1 := frozOf q9 1
    have zl := ltOf q9
    have e1 : (w1.setCell ⟨k0, 0, none⟩ (.int .i64 FA)).cell? ⟨k0, 0, none⟩ = some (.int .i64 FA) := cellOf (tset2 (b' := .int .i64 0) q9).1 0 rfl
    have e2 : ((w1.setCell ⟨k0, 0, none⟩ (.int .i64 FA)).setCell ⟨k0, 1, none⟩ (.slice none 0 0)).cell? ⟨k0, 1, none⟩ = some (.slice none 0 0) := cellOf (tset2 q9).2 1 rfl
    have e3 : ((w1.setCell ⟨k0, 0, none⟩ (.int .i64 FA)).setCell ⟨k0, 1, none⟩ (.slice none 0 0)).cell? ⟨k0, 0, none⟩ = some (.int .i64 FA) := cellOf (tset2 q9).2 0 rfl
    clear q9 q1
    go_wp2
    refine bodyPost_ret (by simp [results, Try.results8, go_sem, e1, e2, e3, zl]; try rfl) rfl ?_
    refine ⟨.slice none 0 0, by rw [HE.out.1], ?_, ?_⟩
    · rw [HE.out.2]; exact World.ownsRow_nil _ _ _ _
    · rw [← HKW.out.1]
      exact (HB1.out.setCell (Nat.le_refl _) _).setCell (Nat.le_refl _) _
  subst hc
  go_wp2_with (fail)
  refine (HI1.out _).mono ?_
  rintro e w1 ⟨rfl, rfl⟩
  cases r1 with
  | false =>
    have HE : Hid (C = 3 ∧ L = []) := by
      have h0 : C = 3 := by rw [HCC.out]; rfl
      have h1 : ¬ vgC s near = 0 := by rw [← H0.out.2.1, h0]; omega
      exact ⟨h0, by rw [H0.out.2.2.1]; exact vgL_bad h1⟩
    have q9 := q1
    have z0 : w1.cell? ⟨k0, 0, none⟩ = some (.int .i64 0) := cellOf q9 0 rfl
    have z1 : w1.cell? ⟨k0, 1, none⟩ = some (.slice none 0 0) := cellOf q9 1 rfl
    have zf0 := frozOf q9 0
    have zf1 := frozOf q9 1
    have zl := ltOf q9
    have e1 : (w1.setCell ⟨k0, 0, none⟩ (.int .i64 3)).cell? ⟨k0, 0, none⟩ = some (.int .i64 3) := cellOf (tset2 (b' := .int .i64 0) q9).1 0 rfl
    have e2 : ((w1.setCell ⟨k0, 0, none⟩ (.int .i64 3)).setCell ⟨k0, 1, none⟩ (.slice none 0 0)).cell? ⟨k0, 1, none⟩ = some (.slice none 0 0) := cellOf (tset2 q9).2 1 rfl
    have e3 : ((w1.setCell ⟨k0, 0, none⟩ (.int .i64 3)).setCell ⟨k0, 1, none⟩ (.slice none 0 0)).cell? ⟨k0, 0, none⟩ = some (.int .i64 3) := cellOf (tset2 q9).2 0 rfl
    clear q9 q1
    go_wp2
    refine bodyPost_ret (by simp [results, Try.results8, go_sem, e1, e2, e3, zl]; try rfl) rfl ?_
    refine ⟨.slice none 0 0, by rw [HE.out.1], ?_, ?_⟩
    · rw [HE.out.2]; exact World.ownsRow_nil _ _ _ _
    · rw [← HKW.out.1]
      exact (HB1.out.setCell (Nat.le_refl _) _).setCell (Nat.le_refl _) _
  | true =>
  have hC0 : vgC s near = 0 := by rw [← H0.out.2.1, HCC.out]; rfl
  obtain ⟨hf1, hnr⟩ := vgC_ok hC0
  have hdok := vdF_ok hf1
  have HL : Hid (C = 0 ∧ L = vgN s near) := ⟨by rw [H0.out.2.1]; exact hC0, by rw [H0.out.2.2.1]; exact vgL_ok hC0⟩
  have hn : n ≤ 60 := by rw [H0.out.2.2.2]; exact hdok.1
  have HQK : Hid (w1.heap[k0]? = some (.cells #[.int .i64 0, .slice none 0 0] 26)) := q1
  clear hf1 hC0 HCC HI1 q1
  obtain ⟨nb, hnb⟩ : ∃ b, b = nbS s near := ⟨_, rfl⟩
  obtain ⟨b, hb⟩ : ∃ b, b = w1.heap.size := ⟨_, rfl⟩
  obtain ⟨V, hV⟩ : ∃ V, V = w1.alloc (.map #[] 0) := ⟨_, rfl⟩
  have HS0 : Hid (CLU V b (fr nb 0) 0 ∧ Below b w1 V) := ⟨by rw [hV, hb]; exact clu_made w1 _, by rw [hV, hb]; (repeat' (first | (with_reducible exact Below.refl _ _) | (with_reducible assumption) | (with_reducible refine Below.setCell ?_ ?_ _) | (with_reducible refine Below.alloc ?_ ?_ _) | (with_reducible refine below_drewN ?_ _) | (with_reducible refine Below.drew ?_) | (with_reducible exact Nat.le_refl _) | omega | (simp; done) | (simp; omega)))⟩
  have HNB : Hid (nb = nbS s near ∧ b = w1.heap.size ∧ k0 < b) := ⟨hnb, hb, by rw [hb]; have := HKW.out.2; omega⟩
  have HV : Hid (V = w1.alloc (.map #[] 0) ∧ b = w1.heap.size) := ⟨hV, hb⟩
  have HD : Hid (∀ d ∈ s, Vok d) := hdok.2
  have hmk := ik_make
  clear hnb hb hV hdok
  go_wp2
  rw [← HV.out.1, ← HV.out.2]
  clear HV hmk
  go_loopw [21] (fun i wr => ∃ k : Nat, k ≤ n ∧ i = .int .i64 k ∧ Hid (CLU wr b (fr nb k) k ∧ Below b w1 wr)) (fun i _ => n - (intOf i).toNat)
  case atStart => exact ⟨0, Nat.zero_le _, rfl, HS0.out⟩
  case round =>
    clear HS0
    obtain ⟨k, hk, rfl, hR⟩ := hrel
    have hWr : Below W.heap.size W wr := by rw [← HKW.out.1]; exact HB1.out.trans (hR.out.2.mono (by have := HNB.out.2.2; omega))
    by_cases hlt : k < n
    · have HT : Hid (Calls Try.prog 25 #[.map (some b), .int .i64 (k : Int), .slice da n dc, .int .i64 near] wr fun e w' => e = .returned (.tuple #[]) ∧ CLU w' b (fr nb (k + 1)) (k + 1) ∧ Chg b (b + 1) wr w') := impl_take HNB.out.1 HD.out hn hlt (H0.out.1.below hWr) hR.out.1
      have b1 : (k : Int) < (n : Int) := by omega
      clear hWr
      go_wp2_with (fail)
      refine HT.out.mono ?_
      rintro e w2 ⟨rfl, hc2, hg2⟩
      have HN : Hid (CLU w2 b (fr nb (k + 1)) (k + 1) ∧ Below b w1 w2) := ⟨hc2, hR.out.2.trans (hg2.below (Nat.le_refl _) (by have h1 := hR.out.2.size; have h2 := HNB.out.2.1; omega))⟩
      clear hc2 hg2 hR HT
      go_wp2
      go_roundw
      case rel => exact ⟨k + 1, by omega, by go_num, HN.out⟩
      case measure => simp [intOf]; omega
    · obtain rfl : k = n := by omega
      have hlab := fr_lab (nb := nb) (by rw [HNB.out.1]; exact nbS_sym s near) k
      have HT : Hid (Calls Try.prog 26 #[.map (some b), .int .i64 (k : Int)] wr fun e w' => ∃ v, e = .returned v ∧ IS w' wr.heap.size v L ∧ Below wr.heap.size wr w') := by
        have h9 := impl_numbers hn hlab.le hlab.own hR.out.1
        have h8 : L = nums (fr nb k) k := by rw [HL.out.2, HNB.out.1, H0.out.2.2.2]; rfl
        rw [← h8] at h9
        exact h9
      have HBR : Hid (Below b w1 wr) := hR.out.2
      clear hR hWr hlab hlt
      go_wp2_with (fail)
      refine HT.out.mono ?_
      rintro e w2 ⟨rv, rfl, hi2, hb2⟩
      obtain ⟨ra, rc, rfl⟩ := hi2.form
      obtain ⟨ln, hln⟩ : ∃ m, m = L.length := ⟨_, rfl⟩
      rw [← hln] at hi2 ⊢
      clear hln
      have hkw : k0 + 1 ≤ b := by have := HNB.out.2.2; omega
      have hbw : b ≤ wr.heap.size := by have h1 := HBR.out.size; have h2 := HNB.out.2.1; omega
      have hB2 : Below b w1 w2 := HBR.out.trans (hb2.mono hbw)
      have q2 := (hB2.block k0 (by omega)).trans HQK.out
      have HO : Hid (IS w2 b (.slice ra ln rc) L ∧ Below k0 W w2 ∧ k0 < b ∧ k0 = W.heap.size) := ⟨IS.low hi2 hbw, HB1.out.trans (hB2.mono (by omega)), by omega, HKW.out.1⟩
      have z0 : w2.cell? ⟨k0, 0, none⟩ = some (.int .i64 0) := cellOf q2 0 rfl
      have z1 : w2.cell? ⟨k0, 1, none⟩ = some (.slice none 0 0) := cellOf q2 1 rfl
      have zf0 := frozOf q2 0
      have zf1 := frozOf q2 1
      have zl := ltOf q2
      have e1 : (w2.setCell ⟨k0, 0, none⟩ (.int .i64 0)).cell? ⟨k0, 0, none⟩ = some (.int .i64 0) := cellOf (tset2 (b' := .int .i64 0) q2).1 0 rfl
      have e2 : ((w2.setCell ⟨k0, 0, none⟩ (.int .i64 0)).setCell ⟨k0, 1, none⟩ (.slice ra ln rc)).cell? ⟨k0, 1, none⟩ = some (.slice ra ln rc) := cellOf (tset2 q2).2 1 rfl
      have e3 : ((w2.setCell ⟨k0, 0, none⟩ (.int .i64 0)).setCell ⟨k0, 1, none⟩ (.slice ra ln rc)).cell? ⟨k0, 0, none⟩ = some (.int .i64 0) := cellOf (tset2 q2).2 0 rfl
      clear q2 hB2 hi2 hb2 HT hkw hbw
      go_wp2
      refine bodyPost_ret (by simp [results, Try.results8, go_sem, e1, e2, e3, zl]; try rfl) rfl ?_
      refine ⟨_, by rw [HL.out.1], ?_, ?_⟩
      · refine IS.low (A := W.heap.size) (B := b) ?_ (by rw [← HKW.out.1]; have := HO.out.2.2.1; omega)
        refine HO.out.1.kept (fun g hg9 => ?_)
        have h9 := (IS.lt HO.out.1 g hg9).1
        have h8 := HO.out.2.2.1
        rw [heap_setCell_other _ _ _ _ (by simp; omega), heap_setCell_other _ _ _ _ (by simp; omega)]
      · rw [← HKW.out.1]
        exact (HO.out.2.1.setCell (Nat.le_refl _) _).setCell (Nat.le_refl _) _

end Go.Proofs.Ytngpjglcjbdblaa
