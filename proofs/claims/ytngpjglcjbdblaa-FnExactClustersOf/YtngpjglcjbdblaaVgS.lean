/- Proved here: ClustersOf of the model. -/
import Derived.Test.YtngpjglcjbdblaaVgQ
import Derived.Test.YtngpjglcjbdblaaLwS
import Derived.Test.YtngpjglcjbdblaaVsE
import Derived.Test.YtngpjglcjbdblaaVdS
import Derived.Test.YtngpjglcjbdblaaInS
import Derived.Test.YtngpjglcjbdblaaNlJ
import Derived.BigQuiet
import Derived.StillTail
import Derived.Deep.AppendLies
import Derived.Deep.DeepCutAuto
namespace Go.Proofs.Ytngpjglcjbdblaa
open Go.RowKit Go.Maps
set_option linter.unusedVariables false
set_option linter.unusedSimpArgs false

theorem spec_abs15 (n : Int) (h1 : -1000000 ≤ n) (w : World) : Calls Try.prog 21 #[.int .i64 n] w fun e w' => e = .returned (.int .i64 n.natAbs) ∧ w' = w := by
  by_cases h : n < 0
  · have e1 : IntKind.i64.wrap (-n) = -n := by rw [IntKind.wrap_i64]; omega
    have e2 : ((n.natAbs : Nat) : Int) = -n := by omega
    rw [e2]
    clear e2
    go_enter Try.func21, Try.ntmps21
    go_wp2
    go_returns
    exact ⟨rfl, rfl⟩
  · have e2 : ((n.natAbs : Nat) : Int) = n := by omega
    rw [e2]
    clear e2
    go_enter Try.func21, Try.ntmps21
    go_wp2
    go_returns
    exact ⟨rfl, rfl⟩

set_option maxRecDepth 10000 in
set_option maxHeartbeats 25600000 in
theorem spec_vg {W : World} {v : Value} {s : List Dft} (near : Int) (hn : s.length ≤ 1048576) (h : RG 4 vdC W v s) :
    Calls Try.prog 6 #[v, .int .i64 near] W fun e w' => ∃ v, e = .returned (.agg #[.int .i64 (vgC s near), v]) ∧ IS w' W.heap.size v (vgL s near) ∧ Below W.heap.size W w' := by
  obtain ⟨da, dc, rfl⟩ := h.form
  obtain ⟨C, hC⟩ : ∃ C, C = vgC s near := ⟨_, rfl⟩
  obtain ⟨L, hL⟩ : ∃ L, L = vgL s near := ⟨_, rfl⟩
  obtain ⟨n, hdn⟩ : ∃ n, n = s.length := ⟨_, rfl⟩
  obtain ⟨FA, hF⟩ : ∃ F, F = vdF s := ⟨_, rfl⟩
  have HF : Hid (∀ X, Below W.heap.size W X → Calls Try.prog 19 #[.slice da n dc] X fun e w' => e = .returned (.int .i64 FA) ∧ Below X.heap.size X w') := fun X hX => by
    rw [hF, hdn]; exact spec_vdF hn (h.below hX)
  obtain ⟨r1, hr1⟩ : ∃ r, r = decide (0 ≤ near ∧ near ≤ 1000) := ⟨_, rfl⟩
  have HI1 : Hid (∀ X, Calls Try.prog 20 #[.int .i64 near, .int .i64 0, .int .i64 1000] X fun e w' => e = .returned (.bool r1) ∧ w' = X) := fun X => by rw [hr1]; exact spec_in10 _ _ _ X
  have HCC : Hid (C = if FA = 0 then (if r1 then 0 else 3) else FA) := by
    unfold Hid; rw [hC, hF, hr1]; unfold vgC
    by_cases h9 : 0 ≤ near ∧ near ≤ 1000 <;> simp [h9]
  rw [← hdn] at h ⊢
  rw [← hC, ← hL]
  have H0 : Hid (RG 4 vdC W (.slice da n dc) s ∧ C = vgC s near ∧ L = vgL s near ∧ n = s.length) := ⟨h, hC, hL, hdn⟩
  clear h hC hL hdn hF hn hr1
  obtain ⟨k0, hk0⟩ : ∃ k, k = W.heap.size := ⟨_, rfl⟩
  obtain ⟨V0, hV0⟩ : ∃ V, V = W.alloc (.cells #[.int .i64 0, .slice none 0 0] 26) := ⟨_, rfl⟩
  have HB0 : Hid (Below k0 W V0 ∧ V0.heap.size = k0 + 1 ∧ k0 = W.heap.size) := ⟨by rw [hV0, hk0]; (repeat' (first | (with_reducible exact Below.refl _ _) | (with_reducible assumption) | (with_reducible refine Below.setCell ?_ ?_ _) | (with_reducible refine Below.alloc ?_ ?_ _) | (with_reducible refine below_drewN ?_ _) | (with_reducible refine Below.drew ?_) | (with_reducible exact Nat.le_refl _) | omega | (simp; done) | (simp; omega))), by rw [hV0, hk0]; simp, hk0⟩
  have HQ1 : Hid (V0.heap[k0]? = some (.cells #[.int .i64 0, .slice none 0 0] 26)) := by rw [hV0, hk0]; exact heap_alloc_new W _
  have HV0 : Hid (V0 = W.alloc (.cells #[.int .i64 0, .slice none 0 0] 26) ∧ k0 = W.heap.size) := ⟨hV0, hk0⟩
  clear hV0 hk0
  go_enter Try.func6, Try.ntmps6
  go_wp2_with (fail)
  rw [← HV0.out.1, ← HV0.out.2]
  clear HV0
  refine (HF.out _ (by rw [← HB0.out.2.2]; exact HB0.out.1)).mono ?_
  rintro e w1 ⟨rfl, hb1⟩
  have HB1 : Hid (Below k0 W w1) := HB0.out.1.trans (hb1.mono (by have := HB0.out.2; omega))
  have q1 := (hb1.block k0 (by have := HB0.out.2; omega)).trans HQ1.out
  have HKW : Hid (k0 = W.heap.size ∧ k0 + 1 ≤ w1.heap.size) := ⟨HB0.out.2.2, by have := hb1.size; have := HB0.out.2; omega⟩
  clear hb1 HQ1 HB0 HF
  by_cases hc : FA = 0
  case neg =>
    have hc2 : (FA != 0) = true := by simp [hc]
    have HE : Hid (C = FA ∧ L = []) := by
      have h0 : C = FA := by rw [HCC.out, if_neg hc]
      have h1 : ¬ vgC s near = 0 := by rw [← H0.out.2.1, h0]; exact hc
      exact ⟨h0, by rw [H0.out.2.2.1]; exact vgL_bad h1⟩
    have q9 := q1
    have z0 : w1.cell? ⟨k0, 0, none⟩ = some (.int .i64 0) := cellOf q9 0 rfl
    have z1 : w1.cell? ⟨k0, 1, none⟩ = some (.slice none 0 0) := cellOf q9 1 rfl
    have zf0 := frozOf q9 0
    have zf1 := frozOf q9 1
    have zl := ltOf q9
    have e1 : (w1.setCell ⟨k0, 0, none⟩ (.int .i64 FA)).cell? ⟨k0, 0, none⟩ = some (.int .i64 FA) := cellOf (tset2 (b' := .int .i64 0) q9).1 0 rfl
    have e2 : ((w1.setCell ⟨k0, 0, none⟩ (.int .i64 FA)).setCell ⟨k0, 1, none⟩ (.slice none 0 0)).cell? ⟨k0, 1, none⟩ = some (.slice none 0 0) := cellOf (tset2 q9).2 1 rfl
    have e3 : ((w1.setCell ⟨k0, 0, none⟩ (.int .i64 FA)).setCell ⟨k0, 1, none⟩ (.slice none 0 0)).cell? ⟨k0, 0, none⟩ = some (.int .i64 FA) := cellOf (tset2 q9).2 0 rfl
    clear q9 q1
    go_wp2
    refine bodyPost_ret (by simp [results, Try.results6, go_sem, e1, e2, e3, zl]; try rfl) rfl ?_
    refine ⟨.slice none 0 0, by rw [HE.out.1], ?_, ?_⟩
    · rw [HE.out.2]; exact World.ownsRow_nil _ _ _ _
    · rw [← HKW.out.1]
      exact (HB1.out.setCell (Nat.le_refl _) _).setCell (Nat.le_refl _) _
  subst hc
  go_wp2_with (fail)
  refine (HI1.out _).mono ?_
  rintro e w1 ⟨rfl, rfl⟩
  cases r1 with
  | false =>
    have HE : Hid (C = 3 ∧ L = []) := by
      have h0 : C = 3 := by rw [HCC.out]; rfl
      have h1 : ¬ vgC s near = 0 := by rw [← H0.out.2.1, h0]; omega
      exact ⟨h0, by rw [H0.out.2.2.1]; exact vgL_bad h1⟩
    have q9 := q1
    have z0 : w1.cell? ⟨k0, 0, none⟩ = some (.int .i64 0) := cellOf q9 0 rfl
    have z1 : w1.cell? ⟨k0, 1, none⟩ = some (.slice none 0 0) := cellOf q9 1 rfl
    have zf0 := frozOf q9 0
    have zf1 := frozOf q9 1
    have zl := ltOf q9
    have e1 : (w1.setCell ⟨k0, 0, none⟩ (.int .i64 3)).cell? ⟨k0, 0, none⟩ = some (.int .i64 3) := cellOf (tset2 (b' := .int .i64 0) q9).1 0 rfl
    have e2 : ((w1.setCell ⟨k0, 0, none⟩ (.int .i64 3)).setCell ⟨k0, 1, none⟩ (.slice none 0 0)).cell? ⟨k0, 1, none⟩ = some (.slice none 0 0) := cellOf (tset2 q9).2 1 rfl
    have e3 : ((w1.setCell ⟨k0, 0, none⟩ (.int .i64 3)).setCell ⟨k0, 1, none⟩ (.slice none 0 0)).cell? ⟨k0, 0, none⟩ = some (.int .i64 3) := cellOf (tset2 q9).2 0 rfl
    clear q9 q1
    go_wp2
    refine bodyPost_ret (by simp [results, Try.results6, go_sem, e1, e2, e3, zl]; try rfl) rfl ?_
    refine ⟨.slice none 0 0, by rw [HE.out.1], ?_, ?_⟩
    · rw [HE.out.2]; exact World.ownsRow_nil _ _ _ _
    · rw [← HKW.out.1]
      exact (HB1.out.setCell (Nat.le_refl _) _).setCell (Nat.le_refl _) _
  | true =>
  have hC0 : vgC s near = 0 := by rw [← H0.out.2.1, HCC.out]; rfl
  obtain ⟨hf1, hnr⟩ := vgC_ok hC0
  have hdok := vdF_ok hf1
  have HL : Hid (C = 0 ∧ L = vgN s near) := ⟨by rw [H0.out.2.1]; exact hC0, by rw [H0.out.2.2.1]; exact vgL_ok hC0⟩
  have hn : n ≤ 60 := by rw [H0.out.2.2.2]; exact hdok.1
  have HQK : Hid (w1.heap[k0]? = some (.cells #[.int .i64 0, .slice none 0 0] 26)) := q1
  clear hf1 hC0 HCC HI1 q1
  obtain ⟨w, hw⟩ : ∃ x, x = w1 := ⟨_, rfl⟩
  subst hw
  obtain ⟨a, ha⟩ : ∃ a, a = da := ⟨_, rfl⟩
  subst ha
  obtain ⟨c, hc9⟩ : ∃ c, c = dc := ⟨_, rfl⟩
  subst hc9
  obtain ⟨nb, hnb⟩ : ∃ b, b = nbS s near := ⟨_, rfl⟩
  obtain ⟨F, hFF⟩ : ∃ F, F = vgF s near := ⟨_, rfl⟩
  have H : Hid (RG 4 vdC w (.slice a n c) s ∧ Lab (En nb n) n F ∧ n = s.length ∧ ∀ d ∈ s, Vok d) := ⟨H0.out.1.below (by rw [← HKW.out.1]; exact HB1.out), by rw [hnb, hFF, H0.out.2.2.2]; exact vg_lab s near, H0.out.2.2.2, hdok.2⟩
  have HNBE : Hid (nb = nbS s near) := hnb
  have HFE : Hid (F = vgF s near) := hFF
  clear hnb hFF H0 hdok
  obtain ⟨i0, hi, hz0, hz1, hz2⟩ := info_parts info_i64
  obtain ⟨j0, hj0, hy0, hy1, hy2⟩ := info_parts info_int
  go_wp2_with (fail)
  go_loopw [6, 7] (fun v i wr => ∃ k : Nat, k ≤ n ∧ i = .int .i64 k ∧ Hid (IS wr w.heap.size v (List.replicate k (-1)) ∧ Below w.heap.size w wr)) (fun _ i _ => n - (intOf i).toNat)
  case atStart => exact ⟨0, Nat.zero_le _, rfl, IS.lit0 _ _ (Nat.le_refl _), by (repeat' (first | (with_reducible exact Below.refl _ _) | (with_reducible assumption) | (with_reducible refine Below.setCell ?_ ?_ _) | (with_reducible refine Below.alloc ?_ ?_ _) | (with_reducible refine below_drewN ?_ _) | (with_reducible refine Below.drew ?_) | (with_reducible exact Nat.le_refl _) | omega | (simp; done) | (simp; omega)))⟩
  case round =>
    obtain ⟨k, hk, rfl, hR⟩ := hrel
    by_cases hlt : k < n
    · have HR : Hid _ := hR.out
      have hwsz := hR.out.2.size
      have hof := hR.out.1.form
      obtain ⟨fa, fc, rfl⟩ := hof
      rw [List.length_replicate] at HR ⊢
      clear hR
      have b1 : (k : Int) < (n : Int) := by omega
      have HOW : Hid ((wr.alloc (.cells #[.int .i64 (-1)] 2)).ownsRow w.heap.size 2 1 (.slice fa k fc) k ((List.replicate k (-1)).map (Value.int .i64))) := by
        have h9 := HR.out.1
        unfold IS at h9
        rw [List.length_replicate] at h9
        exact World.ownsRow.alloc h9 _
      have HNW : Hid (∀ jj u, [Value.int .i64 (-1)][jj]? = some u → (wr.alloc (.cells #[.int .i64 (-1)] 2)).cell? ((⟨wr.heap.size, 0, none⟩ : Addr).add jj) = some u) := World.news_of_block (cs := #[.int .i64 (-1)]) (t := 2) (fr := (0, 0)) (heap_alloc_new wr _)
      have HLL : Hid (w.heap.size ≤ (wr.alloc (.cells #[.int .i64 (-1)] 2)).heap.size) := by unfold Hid; simp; omega
      go_wp2_with (at_builtin; refine wpList_append_own_at _ rfl _ _ 24 rfl w.heap.size 2 i0 (.int .i64 0) 1 8 Try.underlying24 hi hz0 hz1 hz2 rfl (by decide) (.slice fa k fc) k _ rfl HOW.out ⟨wr.heap.size, 0, none⟩ 1 1 [.int .i64 (-1)] rfl rfl HNW.out (by simp [Value.oneCell']) (by unfold maxLen; omega) (by omega) HLL.out ?_; intro v' w1 hown1 hgrow1 hnil1 _)
      have R : Hid (IS w1 w.heap.size v' (List.replicate (k + 1) (-1)) ∧ Below w.heap.size w w1) := by
        refine ⟨?_, (HR.out.2.alloc hwsz _).grown hgrow1 (by simp; omega) (fun b hb => (World.ownsRow.lt HR.out.1 b hb).1)⟩
        have := hown1
        unfold IS
        rw [List.replicate_succ', List.map_append, List.length_append, List.length_replicate]
        exact this
      clear hown1 hgrow1 hnil1 HR HOW HNW HLL
      go_wp2
      go_roundw
      case rel => exact ⟨k + 1, by omega, by go_num, R.out⟩
      case measure => simp [intOf]; omega
    · have ek : n = k := by omega
      subst ek
      have hof := hR.out.1.form
      obtain ⟨fa, fc, rfl⟩ := hof
      rw [List.length_replicate] at hR ⊢
      obtain ⟨w1, hw1⟩ : ∃ w1, w1 = wr := ⟨_, rfl⟩
      rw [← hw1] at hR ⊢
      clear hw1
      have HR : Hid (IS w1 w.heap.size (.slice fa n fc) (List.replicate n (-1)) ∧ Below w.heap.size w w1) := hR
      clear hR hlt
      go_wp2_with (fail)
      go_loopw [8, 9] (fun vx i wr => ∃ (i' : Nat) (xs : List Int), i' ≤ n ∧ i = .int .i64 i' ∧ vx = .int .i64 ((cnt F i' : Nat) : Int) ∧ Hid (IS wr w.heap.size (.slice fa n fc) xs ∧ xs.length = n ∧ (∀ a, a < n → xs.getD a 0 = outA F i' a) ∧ Below w.heap.size w wr)) (fun _ i _ => n - (intOf i).toNat)
      case atStart =>
        refine ⟨0, _, Nat.zero_le _, rfl, rfl, HR.out.1, by simp, fun a ha => ?_, HR.out.2⟩
        simp [outA, ha]
      case round =>
        clear HR
        obtain ⟨i, xs, hin, rfl, rfl, hR⟩ := hrel
        obtain ⟨w2, hw2⟩ : ∃ w2, w2 = wr := ⟨_, rfl⟩
        rw [← hw2] at hR ⊢
        clear hw2
        have hci := cnt_le F i
        by_cases hlt : i < n
        · obtain ⟨g, gc, he, hgB, hgl, hj⟩ := hR.out.1.pos (by rw [hR.out.2.1]; omega)
          simp only [Value.slice.injEq] at he
          obtain ⟨rfl, hx1, hx2⟩ := he
          clear hx1 hx2
          have x0 := hj i (by rw [hR.out.2.1]; exact hlt)
          rw [hR.out.2.2.1 i hlt] at x0
          have b0 : (0 : Int) ≤ (i : Int) := by omega
          have b1 : (i : Int) < (n : Int) := by omega
          have hle := H.out.2.1.le i hlt
          by_cases hF : F i = i
          · have ex : outA F i i = -1 := by unfold outA; rw [if_neg (by omega)]
            rw [ex] at x0
            have f0 := hR.out.1.frozenP i
            have hwsz := hR.out.2.2.2.size
            have hPQ : Hid (PQ nb n F w ((w2.setCell ⟨g, i, none⟩ (.int .i64 ((cnt F i : Nat) : Int))).alloc (.cells #[.int .i64 (i : Int)] 3)) (.slice (some ⟨g, 0, none⟩) n fc) (.slice (some ⟨w2.heap.size, 0, none⟩) 1 1) (xs.set i (cnt F i : Nat)) [i] i n n) := by
              have h1 := hR.out.1.setP i ((cnt F i : Nat) : Int)
              have h2 := hR.out.2.2.2.setCell (p := ⟨g, i, none⟩) hgB (.int .i64 ((cnt F i : Nat) : Int))
              refine ⟨h1.below' ((Below.refl _ _).alloc (Nat.le_refl _) _), ?_, DF.start hR.out.2.1 hlt hF hR.out.2.2.1, h2.alloc (by simpa using hwsz) _⟩
              have := IN.lit1 (w2.setCell ⟨g, i, none⟩ (.int .i64 ((cnt F i : Nat) : Int))) w.heap.size (by simpa using hwsz) i
              simpa using this
            clear hj hR
            go_wp2_with (fail)
            go_loopw [10] (fun vt wr => ∃ (ys : List Int) (td : List Nat) (k : Nat), Hid (PQ nb n F w wr (.slice (some ⟨g, 0, none⟩) n fc) vt ys td i k n ∧ (∃ gt ct, vt = .slice (some ⟨gt, 0, none⟩) td.length ct) ∧ td.length + 2 * negs (fun a => ys.getD a 0) n ≤ 301)) (fun vt wr => lnV vt + 2 * negW wr g n)
            case atStart => exact ⟨_, _, _, hPQ.out, ⟨_, _, rfl⟩, by have := negs_le (fun a => (xs.set i (cnt F i : Nat)).getD a 0) n; simp only [List.length_singleton]; omega⟩
            case round =>
              clear hPQ x0 f0
              obtain ⟨ys, td, k, hI⟩ := hrel
              obtain ⟨hI, ⟨gt, ct, rfl⟩, hbd⟩ := hI.out
              obtain ⟨w3, hw3⟩ : ∃ w3, w3 = wr := ⟨_, rfl⟩
              rw [← hw3] at hI ⊢
              clear hw3
              rcases List.eq_nil_or_concat td with rfl | ⟨tq, q, rfl⟩
              · have hout := DF.done H.out.2.1 hlt hF hI.df
                have HO : Hid (IS w3 w.heap.size (.slice (some ⟨g, 0, none⟩) n fc) ys ∧ ys.length = n ∧ (∀ a, a < n → ys.getD a 0 = outA F (i + 1) a) ∧ Below w.heap.size w w3) := ⟨hI.o, hI.df.ln, hout, hI.bl⟩
                have ec : cnt F (i + 1) = cnt F i + 1 := by simp [cnt, hF]
                clear hI hout
                simp only [List.length_nil]
                go_wp2
                go_roundw
                case rel => exact ⟨i + 1, ys, by omega, by go_num, by rw [ec]; go_num, HO.out⟩
                case measure => simp [intOf]; omega
              · rw [List.concat_eq_append] at hI hbd ⊢
                obtain ⟨hdf, hq, hFq⟩ := hI.df.pop
                obtain ⟨hin2, hcap⟩ := hI.t.init
                obtain ⟨gt', ct', het, _, hgtl, hjt⟩ := hI.t.pos (by simp)
                simp only [Value.slice.injEq, Option.some.injEq, Addr.mk.injEq, and_true] at het
                obtain ⟨rfl, hx1, hx2⟩ := het
                clear hx1 hx2
                have t0 := hjt tq.length (by simp)
                rw [show (tq ++ [q]).getD tq.length 0 = q by simp [List.getD_eq_getElem?_getD]] at t0
                have el : (tq ++ [q]).length = tq.length + 1 := by simp
                rw [el] at hbd ⊢
                obtain ⟨m, hm⟩ : ∃ m, m = tq.length := ⟨_, rfl⟩
                have HP : Hid (PQ nb n F w w3 (.slice (some ⟨g, 0, none⟩) n fc) (.slice (some ⟨gt, 0, none⟩) m ct) ys tq i q 0 ∧ m = tq.length) := ⟨⟨hI.o, by rw [hm]; exact hin2, hdf, hI.bl⟩, hm⟩
                have HW3 : Hid (negW w3 g n = negs (fun a => ys.getD a 0) n) := negW_eq hI.o
                rw [← hm] at hbd hcap t0 ⊢
                clear hI hdf hin2 hjt hm el
                obtain ⟨N0, hN0⟩ : ∃ N0, N0 = negs (fun a => ys.getD a 0) n := ⟨_, rfl⟩
                rw [← hN0] at hbd HW3
                have HN0 : Hid (N0 = negs (fun a => ys.getD a 0) n) := hN0
                clear hN0
                have e0 : (0 : Int) ≤ (m : Int) := by omega
                have e1 : (m : Int) < (m : Int) + 1 := by omega
                have e2 : (m : Int) ≤ (ct : Int) := by omega
                have e3 : (0 : Int) < (m : Int) + 1 := by omega
                go_wp2_with (fail)
                go_loopw [10, 12] (fun vt vj wr => ∃ (j : Nat) (zs : List Int) (td : List Nat), j ≤ n ∧ vj = .int .i64 j ∧ Hid (PQ nb n F w wr (.slice (some ⟨g, 0, none⟩) n fc) vt zs td i q j ∧ (∃ gt ct, vt = .slice (some ⟨gt, 0, none⟩) td.length ct) ∧ td.length + 2 * negs (fun a => zs.getD a 0) n ≤ m + 2 * N0)) (fun _ vj _ => n - (intOf vj).toNat)
                case atStart => exact ⟨0, ys, tq, Nat.zero_le _, rfl, HP.out.1, ⟨gt, ct, by rw [HP.out.2]⟩, by rw [HP.out.2, HN0.out]; exact Nat.le_refl _⟩
                case round =>
                  clear HP HN0 t0
                  obtain ⟨j, zs, td, hjn, rfl, hJ⟩ := hrel
                  obtain ⟨hJ, ⟨gu, cu, rfl⟩, hbj⟩ := hJ.out
                  obtain ⟨w4, hw4⟩ : ∃ w4, w4 = wr := ⟨_, rfl⟩
                  rw [← hw4] at hJ ⊢
                  clear hw4
                  have hw4sz := hJ.bl.size
                  by_cases hltj : j < n
                  · obtain ⟨g', gc', he, _, hgl4, hj⟩ := hJ.o.pos (by rw [hJ.df.ln]; omega)
                    simp only [Value.slice.injEq, Option.some.injEq, Addr.mk.injEq, and_true] at he
                    obtain ⟨rfl, hx1, hx2⟩ := he
                    clear hx1 hx2
                    have z0 := hj j (by rw [hJ.df.ln]; exact hltj)
                    obtain ⟨z, hz⟩ : ∃ z, z = zs.getD j 0 := ⟨_, rfl⟩
                    rw [← hz] at z0
                    have d0 : (0 : Int) ≤ (j : Int) := by omega
                    have d1 : (j : Int) < (n : Int) := by omega
                    have d2 : (0 : Int) ≤ (q : Int) := by omega
                    have d3 : (q : Int) < (n : Int) := by omega
                    by_cases hneg : z < 0
                    · obtain ⟨ga, oa, ca, he, hga, hja⟩ := (H.out.1.below hJ.bl).pos (by rw [← H.out.2.2.1]; omega)
                      simp only [Value.slice.injEq] at he
                      obtain ⟨rfl, hx1, hx2⟩ := he
                      clear hx1 hx2
                      have hqs : q < s.length := by rw [← H.out.2.2.1]; exact hq
                      have hjs : j < s.length := by rw [← H.out.2.2.1]; exact hltj
                      obtain ⟨p0, p1, p2, p3⟩ := vdC_at (hja q hqs)
                      obtain ⟨r0, r1, r2, r3⟩ := vdC_at (hja j hjs)
                      have hqk := H.out.2.2.2 s[q] (List.getElem_mem _)
                      have hjk := H.out.2.2.2 s[j] (List.getElem_mem _)
                      have HNB : Hid (nb q j = nbD near s[q] s[j]) := by unfold Hid; rw [HNBE.out]; exact nbS_at hqs hjs
                      obtain ⟨dq, hdq⟩ : ∃ d, d = s[q] := ⟨_, rfl⟩
                      obtain ⟨dj, hdj⟩ : ∃ d, d = s[j] := ⟨_, rfl⟩
                      rw [← hdq] at p0 p1 p2 p3 hqk HNB
                      rw [← hdj] at r0 r1 r2 r3 hjk HNB
                      obtain ⟨D1, hD1⟩ : ∃ D, D = dj.x - dq.x := ⟨_, rfl⟩
                      obtain ⟨D2, hD2⟩ : ∃ D, D = dj.y - dq.y := ⟨_, rfl⟩
                      have hb1 : -10000 ≤ D1 ∧ D1 ≤ 10000 := by rw [hD1]; have h8 := hqk.1; have h7 := hqk.2.1; have h6 := hjk.1; have h5 := hjk.2.1; omega
                      have hb2 : -10000 ≤ D2 ∧ D2 ≤ 10000 := by rw [hD2]; have h8 := hqk.2.2.1; have h7 := hqk.2.2.2.1; have h6 := hjk.2.2.1; have h5 := hjk.2.2.2.1; omega
                      have hw1 : IntKind.i64.wrap (dj.x - dq.x) = D1 := by rw [← hD1, IntKind.wrap_i64]; omega
                      have hw2 : IntKind.i64.wrap (dj.y - dq.y) = D2 := by rw [← hD2, IntKind.wrap_i64]; omega
                      obtain ⟨A1, hA1⟩ : ∃ A, A = (D1.natAbs : Int) := ⟨_, rfl⟩
                      obtain ⟨A2, hA2⟩ : ∃ A, A = (D2.natAbs : Int) := ⟨_, rfl⟩
                      have HA1 : Hid (∀ X, Calls Try.prog 21 #[.int .i64 D1] X fun e w' => e = .returned (.int .i64 A1) ∧ w' = X) := fun X => by rw [hA1]; exact spec_abs15 D1 (by omega) X
                      have HA2 : Hid (∀ X, Calls Try.prog 21 #[.int .i64 D2] X fun e w' => e = .returned (.int .i64 A2) ∧ w' = X) := fun X => by rw [hA2]; exact spec_abs15 D2 (by omega) X
                      have HNY : Hid (nb q j = (decide (A1 ≤ near) && decide (A2 ≤ near))) := by
                        unfold Hid; rw [HNB.out, nbD_sym]; unfold nbD; rw [hA1, hA2, hD1, hD2]
                      have HZ : Hid (z = zs.getD j 0) := hz
                      have HJ : Hid _ := hJ
                      have HJN : Hid (nb q j = false → ∀ X, Below w4.heap.size w4 X → PQ nb n F w X (.slice (some ⟨g, 0, none⟩) n fc) (.slice (some ⟨gu, 0, none⟩) td.length cu) zs td i q (j + 1)) := fun hB X hX =>
                        PQ.next ⟨HJ.out.o, HJ.out.t, HJ.out.df.same (fun e => by rw [hB] at e; exact absurd e.2 (by decide)), HJ.out.bl⟩ hX
                      have dz : decide (z < 0) = true := decide_eq_true hneg
                      clear hdq hdj hD1 hD2 hA1 hA2 hb1 hb2 hqk hjk hz hj hja hJ HNB p2 p3 r2 r3 hqs hjs
                      by_cases hX : A1 ≤ near
                      case neg =>
                        have dx : decide (A1 ≤ near) = false := decide_eq_false hX
                        have HJ2 : Hid _ := HJN.out (by rw [HNY.out, dx]; rfl)
                        clear HJN
                        have HJN : Hid (∀ X, Below w4.heap.size w4 X → PQ nb n F w X (.slice (some ⟨g, 0, none⟩) n fc) (.slice (some ⟨gu, 0, none⟩) td.length cu) zs td i q (j + 1)) := HJ2.out
                        clear HJ2 HJ HNY hX
                        go_wp2_with (fail)
                        go_quiet (first | (go_at_call 21; with_reducible refine Calls.quiet_of_same (HA1.out _)) | (go_at_call 21; with_reducible refine Calls.quiet_of_same (HA2.out _)))
                        go_wp2
                        go_roundw
                        case rel => exact ⟨j + 1, zs, td, by omega, by go_num, HJN.out _ (below_drewN (Below.refl _ _) _), ⟨gu, cu, rfl⟩, hbj⟩
                        case measure => simp [intOf]; omega
                      have dx : decide (A1 ≤ near) = true := decide_eq_true hX
                      by_cases hY : A2 ≤ near
                      case neg =>
                        have dy : decide (A2 ≤ near) = false := decide_eq_false hY
                        have HJ2 : Hid _ := HJN.out (by rw [HNY.out, dx, dy]; rfl)
                        clear HJN
                        have HJN : Hid (∀ X, Below w4.heap.size w4 X → PQ nb n F w X (.slice (some ⟨g, 0, none⟩) n fc) (.slice (some ⟨gu, 0, none⟩) td.length cu) zs td i q (j + 1)) := HJ2.out
                        clear HJ2 HJ HNY hX hY
                        go_wp2_with (fail)
                        go_quiet (first | (go_at_call 21; with_reducible refine Calls.quiet_of_same (HA1.out _)) | (go_at_call 21; with_reducible refine Calls.quiet_of_same (HA2.out _)))
                        go_wp2
                        go_roundw
                        case rel => exact ⟨j + 1, zs, td, by omega, by go_num, HJN.out _ (below_drewN (Below.refl _ _) _), ⟨gu, cu, rfl⟩, hbj⟩
                        case measure => simp [intOf]; omega
                      have dy : decide (A2 ≤ near) = true := decide_eq_true hY
                      have hB : nb q j = true := by rw [HNY.out, dx, dy]; rfl
                      have hFj : F j = i := by rw [DF.join H.out.2.1 hq hltj hB, hFq]
                      have hmk := negs_mark (xs := zs) (j := j) (z := ((cnt F i : Nat) : Int)) (by rw [HJ.out.df.ln]; exact hltj) (by rw [← HZ.out]; exact hneg) (by omega) n
                      rw [if_pos hltj] at hmk
                      clear HJN HNY hX hY
                      go_wp2_with (fail)
                      go_quiet (first | (go_at_call 21; with_reducible refine Calls.quiet_of_same (HA1.out _)) | (go_at_call 21; with_reducible refine Calls.quiet_of_same (HA2.out _)))
                      obtain ⟨W1, hW1⟩ : ∃ X, X = w4.drewN nq := ⟨_, rfl⟩
                      rw [← hW1]
                      have hb1 : Below w4.heap.size w4 W1 := by rw [hW1]; exact below_drewN (Below.refl _ _) _
                      have HJ1 : Hid _ := HJ.out.next hb1
                      have hw1sz := HJ1.out.bl.size
                      have f1 := HJ1.out.o.frozenP j
                      have c1 : W1.cell? ⟨g, j, none⟩ = some (.int .i64 z) := by rw [HZ.out]; obtain ⟨g9, gc9, he9, _, _, hj9⟩ := HJ1.out.o.pos (by rw [HJ1.out.df.ln]; omega); simp only [Value.slice.injEq, Option.some.injEq, Addr.mk.injEq, and_true] at he9; obtain ⟨rfl, _, _⟩ := he9; exact hj9 j (by rw [HJ1.out.df.ln]; exact hltj)
                      have hgl1 : g < W1.heap.size := Nat.lt_of_lt_of_le hgl4 hb1.size
                      clear hb1 hW1 p0 p1 r0 r1 z0 HA1 HA2 hw1 hw2 HJ
                      have HOW : Hid (((W1.setCell ⟨g, j, none⟩ (.int .i64 ((cnt F i : Nat) : Int))).alloc (.cells #[.int .i64 (j : Int)] 3)).ownsRow w.heap.size 3 1 (.slice (some ⟨gu, 0, none⟩) td.length cu) td.length (td.map nv)) := by
                        have h9 := HJ1.out.tset j ((cnt F i : Nat) : Int)
                        unfold IN at h9
                        exact World.ownsRow.alloc h9 _
                      have HNW : Hid (∀ jj u, [Value.int .i64 (j : Int)][jj]? = some u → ((W1.setCell ⟨g, j, none⟩ (.int .i64 ((cnt F i : Nat) : Int))).alloc (.cells #[.int .i64 (j : Int)] 3)).cell? ((⟨W1.heap.size, 0, none⟩ : Addr).add jj) = some u) := World.news_of_block (cs := #[.int .i64 (j : Int)]) (t := 3) (fr := (0, 0)) (by have := heap_alloc_new (W1.setCell ⟨g, j, none⟩ (.int .i64 ((cnt F i : Nat) : Int))) (.cells #[.int .i64 (j : Int)] 3); simpa using this)
                      have HLL : Hid (w.heap.size ≤ ((W1.setCell ⟨g, j, none⟩ (.int .i64 ((cnt F i : Nat) : Int))).alloc (.cells #[.int .i64 (j : Int)] 3)).heap.size) := by unfold Hid; simp; omega
                      go_wp2_with (at_builtin; refine wpList_append_own_at _ rfl _ _ 44 rfl w.heap.size 3 j0 (.int .i64 0) 1 8 Try.underlying44 hj0 hy0 hy1 hy2 rfl (by decide) (.slice (some ⟨gu, 0, none⟩) td.length cu) td.length _ rfl HOW.out ⟨W1.heap.size, 0, none⟩ 1 1 [.int .i64 (j : Int)] rfl rfl HNW.out (by simp [Value.oneCell']) (by unfold maxLen; omega) (by omega) HLL.out ?_; intro v' w5 hown5 hgrow5 hnil5 _)
                      have hP5 := HJ1.out.mark hgB hltj hFj (by rw [← HZ.out]; exact hneg) hown5 hgrow5
                      obtain ⟨g5, c5, hv5, _⟩ := hP5.t.pos (by simp)
                      have R : Hid _ := And.intro hP5 (And.intro (⟨g5, c5, hv5⟩ : ∃ gt ct, v' = .slice (some ⟨gt, 0, none⟩) (td ++ [j]).length ct) (show (td ++ [j]).length + 2 * negs (fun a => (zs.set j ((cnt F i : Nat) : Int)).getD a 0) n ≤ m + 2 * N0 by simp only [List.length_append, List.length_singleton]; omega))
                      clear HOW HNW HLL hown5 hgrow5 hnil5 hP5 hv5 HJ1 HZ
                      go_wp2
                      go_roundw
                      case rel => exact ⟨j + 1, _, _, by omega, by go_num, R.out⟩
                      case measure => simp [intOf]; omega
                    · have dz : decide (z < 0) = false := decide_eq_false hneg
                      have HJ : Hid (∀ W, Below w4.heap.size w4 W → PQ nb n F w W (.slice (some ⟨g, 0, none⟩) n fc) (.slice (some ⟨gu, 0, none⟩) td.length cu) zs td i q (j + 1)) := fun W hW =>
                        PQ.next ⟨hJ.o, hJ.t, hJ.df.same (fun e => by rw [← hz] at e; exact hneg e.1), hJ.bl⟩ hW
                      clear hj hz hJ
                      go_wp2_with (fail)
                      go_quiet (fail)
                      go_wp2
                      go_roundw
                      case rel => exact ⟨j + 1, zs, td, by omega, by go_num, HJ.out _ (below_drewN (Below.refl _ _) _), ⟨gu, cu, rfl⟩, hbj⟩
                      case measure => simp [intOf]; omega
                  · have ej : n = j := by omega
                    subst ej
                    have HJ : Hid _ := hJ
                    have HW4 : Hid (negW w4 g n = negs (fun a => zs.getD a 0) n) := negW_eq hJ.o
                    clear hJ
                    go_wp2
                    go_roundw
                    case rel => exact ⟨zs, td, q, HJ.out, ⟨gu, cu, rfl⟩, by omega⟩
                    case measure => simp [lnV]; rw [HW3.out, HW4.out]; omega
          · have hlt2 : F i < i := by omega
            have ex : outA F i i = ((cnt F (F i) : Nat) : Int) := by unfold outA; rw [if_pos hlt2]
            rw [ex] at x0
            have ec : cnt F (i + 1) = cnt F i := by simp [cnt, hF]
            have hcf := cnt_le F (F i)
            have HO : Hid (IS w2 w.heap.size (.slice (some ⟨g, 0, none⟩) n fc) xs ∧ xs.length = n ∧ (∀ a, a < n → xs.getD a 0 = outA F (i + 1) a) ∧ Below w.heap.size w w2) := ⟨hR.out.1, hR.out.2.1, fun a ha => by rw [outA_skip H.out.2.1 hF ha]; exact hR.out.2.2.1 a ha, hR.out.2.2.2⟩
            clear hj hR
            go_wp2
            go_roundw
            case rel => exact ⟨i + 1, xs, by omega, by go_num, by rw [ec], HO.out⟩
            case measure => simp [intOf]; omega
        · have ei : n = i := by omega
          subst ei
          have HO : Hid (IS w2 w.heap.size (.slice fa n fc) L ∧ Below w.heap.size w w2) := ⟨by
            have h9 : L = xs := by rw [HL.out.2]; exact (vgN_of (by rw [hR.out.2.1, H.out.2.2.1]) (fun a ha => by rw [← HFE.out, ← H.out.2.2.1]; exact hR.out.2.2.1 a (by rw [H.out.2.2.1]; exact ha))).symm
            rw [h9]; exact hR.out.1, hR.out.2.2.2⟩
          have q2 := (HO.out.2.block _ (by have := HKW.out.2; omega)).trans HQK.out
          have z0 : w2.cell? ⟨k0, 0, none⟩ = some (.int .i64 0) := cellOf q2 0 rfl
          have z1 : w2.cell? ⟨k0, 1, none⟩ = some (.slice none 0 0) := cellOf q2 1 rfl
          have zf0 := frozOf q2 0
          have zf1 := frozOf q2 1
          have zl := ltOf q2
          have e1 : (w2.setCell ⟨k0, 0, none⟩ (.int .i64 0)).cell? ⟨k0, 0, none⟩ = some (.int .i64 0) := cellOf (tset2 (b' := .int .i64 0) q2).1 0 rfl
          have e2 : ((w2.setCell ⟨k0, 0, none⟩ (.int .i64 0)).setCell ⟨k0, 1, none⟩ (.slice fa n fc)).cell? ⟨k0, 1, none⟩ = some (.slice fa n fc) := cellOf (tset2 q2).2 1 rfl
          have e3 : ((w2.setCell ⟨k0, 0, none⟩ (.int .i64 0)).setCell ⟨k0, 1, none⟩ (.slice fa n fc)).cell? ⟨k0, 0, none⟩ = some (.int .i64 0) := cellOf (tset2 q2).2 0 rfl
          clear q2 hR
          go_wp2
          refine bodyPost_ret (by simp [results, Try.results6, go_sem, e1, e2, e3, zl]; try rfl) rfl ?_
          refine ⟨_, by rw [HL.out.1], ?_, ?_⟩
          · refine IS.low (A := W.heap.size) (B := w.heap.size) ?_ (by rw [← HKW.out.1]; have := HKW.out.2; omega)
            refine HO.out.1.kept (fun g hg9 => ?_)
            have h9 := (World.ownsRow.lt HO.out.1 g hg9).1
            have h8 := HKW.out.2
            rw [heap_setCell_other _ _ _ _ (by simp; omega), heap_setCell_other _ _ _ _ (by simp; omega)]
          · rw [← HKW.out.1]
            have h9 : Below k0 W w2 := HB1.out.trans (HO.out.2.mono (by have := HKW.out.2; omega))
            exact (h9.setCell (Nat.le_refl _) _).setCell (Nat.le_refl _) _

end Go.Proofs.Ytngpjglcjbdblaa
